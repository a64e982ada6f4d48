/-
  The program's decimal and summed, over the shelf's strconv.FormatInt and strings.Join.
-/
import Derived.Test.YtooalnpfenhelabDoorSuperT
import Derived.Test.YtooalnpfenhelabDoorShelf
import Derived.WalkSmall
import Derived.Lib.LaidTab
namespace Go.Proofs.YtooalnpfenhelabDoor
open Go.RowKit

/-- The library's table of powers of ten lies where it was laid. -/
def Tab (w : World) : Prop := Lib.TabIs Tryd.prog w "internal/strconv.uint64pow10" .u64 Lib.pow10Tab ∧ ∃ g, Tryd.prog.globalNamed "internal/strconv.uint64pow10" = some g ∧ g < w.heap.size
theorem Tab.below {w w' : World} (h : Tab w) (hb : Below w.heap.size w w') : Tab w' := by
  obtain ⟨h1, g, hg, hl⟩ := h
  exact ⟨var?_below hb hg hl h1, g, hg, Nat.lt_of_lt_of_le hl hb.size⟩
theorem below_grow (w : World) (k : Nat) (os : Array Obj) : Below w.heap.size w (Sort.grow (w.drewN k) os) := by
  refine ⟨rfl, rfl, rfl, ?_, fun i hi => ?_⟩
  · show w.heap.size ≤ (w.heap ++ os).size
    simp
  · show (w.heap ++ os)[i]? = w.heap[i]?
    rw [Array.getElem?_append_left hi]

theorem formatInt_any (n : Nat) (w : World) (hn : n ≤ 1000000000000) (ht : Tab w) :
    Calls Tryd.prog 49 #[.int .i64 (n : Int), .int .i64 10] w fun e w' => e = .returned (.string (decB n)) ∧ Below w.heap.size w w' := by
  have HC := hid (Tryd.internal_strconv_FormatInt_10 (n : Int) (by omega) (by omega) w ht.1)
  have HI : Hid ((⟨(Lib.itoa (n : Int)).toArray⟩ : ByteArray) = decB n) := by
    unfold decB
    rw [Lib.itoa_nonneg]
    rfl
  clear ht
  go_enter Tryd.func49, Tryd.ntmps49
  go_wp2_with (go_at_call 74; refine HC.out.mono ?_; rintro e w' ⟨rfl, k, os, hw'⟩; have HW : Hid (Below w.heap.size w w') := (by rw [hw']; exact below_grow w k os); clear hw')
  go_ret
  exact ⟨ret_txt HI.out, HW.out⟩

theorem decimal_any (n : Nat) (w : World) (hn : n ≤ 1000000000000) (ht : Tab w) :
    Calls Tryd.prog 21 #[.int .i64 (n : Int)] w fun e w' => e = .returned (.string (decB n)) ∧ Below w.heap.size w w' := by
  have HT := hid ht
  clear ht
  go_enter Tryd.func21, Tryd.ntmps21
  go_wp2_with (go_at_call 49; refine (formatInt_any n _ hn HT.out).mono ?_; rintro e w' ⟨rfl, hw⟩; have HW := hid hw; clear hw)
  go_ret
  exact ⟨rfl, HW.out⟩
theorem decimal_int (n : Int) (w : World) (h0 : 0 ≤ n) (hn : n ≤ 1000000000000) (ht : Tab w) :
    Calls Tryd.prog 21 #[.int .i64 n] w fun e w' => e = .returned (.string (decB n.toNat)) ∧ Below w.heap.size w w' := by
  have := decimal_any n.toNat w (by omega) ht
  rwa [Int.toNat_of_nonneg h0] at this
theorem l1Dec_int (n : Int) (w : World) (h0 : 0 ≤ n) (hn : n ≤ 1000000000000) :
    Calls Tryd.prog 54 #[.int .i64 n] w fun e w' => e = .returned (.string (decB n.toNat)) ∧ Below w.heap.size w w' := by
  have := spec_l1Dec n.toNat w (by omega)
  rwa [Int.toNat_of_nonneg h0] at this

/-- Words, one behind the other with a blank between two. -/
def joinB (xs : List ByteArray) : ByteArray := ⟨(Lib.join (xs.map (·.data.toList)) [32]).toArray⟩

set_option maxHeartbeats 1000000 in
theorem summed_any (g c : Nat) (xs : List ByteArray) (w : World) (hx : ∀ (j : Nat) (x : ByteArray), xs[j]? = some x → w.cell? ⟨g, 0 + j, none⟩ = some (.string x)) (hg : g < w.heap.size) (hl : xs.length ≤ 1000) (hc : xs.length ≤ c) (hj : (joinB xs).size ≤ 10000) (ht : Tab w) :
    Calls Tryd.prog 23 #[.slice (some ⟨g, 0, none⟩) xs.length c] w fun e w' => e = .returned (.string (summedB (joinB xs))) ∧ Below w.heap.size w w' := by
  have hlen : (Lib.join (xs.map (·.data.toList)) [32]).length ≤ 10000 := by
    have : (joinB xs).size = (Lib.join (xs.map (·.data.toList)) [32]).length := by
      show (Lib.join (xs.map (·.data.toList)) [32]).toArray.size = _
      simp
    omega
  have hJ : Calls Tryd.prog 50 #[.slice (some ⟨g, 0, none⟩) xs.length c, .string ⟨#[32]⟩] w fun e w' => e = .returned (.string (joinB xs)) ∧ Below w.heap.size w w' :=
    Tryd.strings_Join g 0 c xs ⟨#[32]⟩ w hx hg (by omega) hc (by show (Lib.join (xs.map (·.data.toList)) [32]).length ≤ _; omega)
  have HJ := hid hJ
  have HT := hid ht
  have hmx : (joinB xs).size ≤ maxLen := by unfold maxLen; omega
  have HM := hid hmx
  have HS : Hid (sumV (joinB xs) = crcB (joinB xs)) := by
    unfold Hid sumV
    rw [if_neg (by omega)]
  have hz := decB_size (crc_small (joinB xs))
  clear hJ hx ht hlen hmx
  go_enter Tryd.func23, Tryd.ntmps23
  go_wp2_with (go_at_call 50; refine HJ.out.mono ?_; rintro e w1 ⟨rfl, hw1⟩; have H1 := hid hw1; clear hw1)
  refine (impl_SumOf (joinB xs) _ HM.out).mono ?_
  rintro e w2 ⟨rfl, hw2⟩
  have H2 := hid (H1.out.trans (hw2.mono H1.out.size))
  clear hw2
  rw [HS.out]
  go_wp2_with fail
  refine (decimal_any (crcB (joinB xs)) _ (crc_small _) (HT.out.below H2.out)).mono ?_
  rintro e w3 ⟨rfl, hw3⟩
  have H3 := hid (H2.out.trans (hw3.mono H2.out.size))
  clear hw3
  go_wp2_with fail
  go_ret
  exact ⟨rfl, H3.out⟩
end Go.Proofs.YtooalnpfenhelabDoor
