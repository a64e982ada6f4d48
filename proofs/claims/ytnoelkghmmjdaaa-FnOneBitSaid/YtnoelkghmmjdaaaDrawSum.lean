/-
  DrawSumOf: what it gives.
-/
import Derived.Test.YtnoelkghmmjdaaaDrawsB
namespace Go.Proofs.Ytnoelkghmmjdaaa
open Go.RowKit

set_option maxHeartbeats 1000000 in
theorem text_any (B g : Nat) (w : World) (h : Rd w B g) :
    Calls Try.prog 80 #[.pointer (some ⟨g, 0, none⟩)] w (Txt B g w) := by
  have HR := hid h
  clear h
  go_enter Try.func80, Try.ntmps80
  go_wp2_with fail
  refine (below_any B g 5 _ (HR.out.below ((Below.refl _ _).alloc (Nat.le_refl _) _)) (by omega) (by omega)).mono ?_
  rintro e w2 ⟨v, hv, rfl, hr2, hg2⟩
  obtain ⟨s, hs, hcell⟩ := tbl_cell hg2 HR.out.lt.1 (by simpa using hv) (by rfl)
  have HR2 := hid hr2
  have HG2 := hid (grown_trans' (grown_of_below ((Below.refl w.heap.size w).alloc (Nat.le_refl _) _)) hg2)
  clear hr2 hg2
  have e1 : (0 : Int) ≤ (v : Int) := by omega
  have e2 : (v : Int) < 5 := by omega
  go_wp2_with fail
  go_ret
  exact ⟨s, hs, rfl, HR2.out, HG2.out⟩

/-- A text that is drawn. -/
def SumD (w : World) (e : Ending) (w' : World) : Prop := ∃ s : ByteArray, e = .returned (.string s) ∧ s.size ≤ 21 ∧ Below w.heap.size w w'

set_option maxHeartbeats 2000000 in
theorem drawSumOf_any (A : Option Addr) (n c : Nat) (w : World) (hc : CB w w.heap.size A n) (hn : n ≤ 1048576) :
    Calls Try.prog 32 #[.slice A n c] w (SumD w) := by
  have HC := hid hc
  clear hc
  go_enter Try.func32, Try.ntmps32
  go_wp2_with fail
  refine (open_any A n c _).mono ?_
  rintro e w1 ⟨rfl, hw1⟩
  obtain ⟨hr1, hb1, _⟩ := rd_start HC.out hn hw1
  have HR1 := hid hr1
  have HB1 := hid hb1
  clear hw1 hr1 hb1
  go_wp2_with fail
  refine (text_any w.heap.size w.heap.size _ HR1.out).mono ?_
  rintro e w2 ⟨s, hs, rfl, hr2, hg2⟩
  have HR2 := hid hr2
  have HB2 := hid (HB1.out.grown hg2 HB1.out.size (by simp))
  clear hr2 hg2
  go_wp2_with fail
  refine (key_any w.heap.size w.heap.size _ HR2.out).mono ?_
  rintro e w3 ⟨t, ht, rfl, hr3, hg3⟩
  have HR3 := hid hr3
  have HB3 := hid (HB2.out.grown hg3 HB2.out.size (by simp))
  clear hr3 hg3
  go_wp2_with fail
  refine (val_any w.heap.size w.heap.size _ HR3.out).mono ?_
  rintro e w4 ⟨u, hu, rfl, hr4, hg4⟩
  have HB4 := hid (HB3.out.grown hg4 HB3.out.size (by simp))
  clear hr4 hg4
  go_wp2_with fail
  go_ret
  exact ⟨_, rfl, by simp only [ByteArray.size_append]; omega, HB4.out⟩
end Go.Proofs.Ytnoelkghmmjdaaa
