/-
  Keys and values that are drawn.
-/
import Derived.Test.YtoipcjdpfbgghabDraw0
namespace Go.Proofs.Ytoipcjdpfbgghab
open Go.RowKit

set_option maxHeartbeats 1000000 in
theorem key_any (B g : Nat) (w : World) (h : Rd w B g) :
    Calls Try.prog 50 #[.pointer (some ⟨g, 0, none⟩)] w (Txt B g w) := by
  have HR := hid h
  clear h
  go_enter Try.func50, Try.ntmps50
  go_wp2_with fail
  refine (once_any B g 40 _ HR.out (by omega) (by omega)).mono ?_
  rintro e w1 ⟨b, rfl, hr1, hg1⟩
  have HR1 := hid hr1
  have HG1 := hid hg1
  clear hr1 hg1
  cases b
  · go_wp2_with fail
    refine (below_any B g 16 _ (HR1.out.below ((Below.refl _ _).alloc (Nat.le_refl _) _)) (by omega) (by omega)).mono ?_
    rintro e w2 ⟨v, hv, rfl, hr2, hg2⟩
    obtain ⟨s, hs, hcell⟩ := tbl_cell hg2 HR1.out.lt.1 (by simpa using hv) (by rfl)
    have HR2 := hid hr2
    have HG2 := hid (grown_trans' (grown_of_below ((Below.refl w1.heap.size w1).alloc (Nat.le_refl _) _)) hg2)
    clear hr2 hg2
    have e1 : (0 : Int) ≤ (v : Int) := by omega
    have e2 : (v : Int) < 16 := by omega
    go_wp2_with fail
    go_ret
    exact ⟨s, hs, rfl, HR2.out, grown_trans' HG1.out HG2.out⟩
  · go_wp2_with fail
    refine (below_any B g 4 _ (HR1.out.below ((Below.refl _ _).alloc (Nat.le_refl _) _)) (by omega) (by omega)).mono ?_
    rintro e w2 ⟨v, hv, rfl, hr2, hg2⟩
    obtain ⟨s, hs, hcell⟩ := tbl_cell hg2 HR1.out.lt.1 (by simpa using hv) (by rfl)
    have HR2 := hid hr2
    have HG2 := hid (grown_trans' (grown_of_below ((Below.refl w1.heap.size w1).alloc (Nat.le_refl _) _)) hg2)
    clear hr2 hg2
    have e1 : (0 : Int) ≤ (v : Int) := by omega
    have e2 : (v : Int) < 4 := by omega
    go_wp2_with fail
    go_ret
    exact ⟨s, hs, rfl, HR2.out, grown_trans' HG1.out HG2.out⟩

set_option maxHeartbeats 1000000 in
theorem val_any (B g : Nat) (w : World) (h : Rd w B g) :
    Calls Try.prog 51 #[.pointer (some ⟨g, 0, none⟩)] w (Txt B g w) := by
  have HR := hid h
  clear h
  go_enter Try.func51, Try.ntmps51
  go_wp2_with fail
  refine (once_any B g 60 _ HR.out (by omega) (by omega)).mono ?_
  rintro e w1 ⟨b, rfl, hr1, hg1⟩
  have HR1 := hid hr1
  have HG1 := hid hg1
  clear hr1 hg1
  cases b
  · go_wp2_with fail
    refine (below_any B g 5 _ (HR1.out.below ((Below.refl _ _).alloc (Nat.le_refl _) _)) (by omega) (by omega)).mono ?_
    rintro e w2 ⟨v, hv, rfl, hr2, hg2⟩
    obtain ⟨s, hs, hcell⟩ := tbl_cell hg2 HR1.out.lt.1 (by simpa using hv) (by rfl)
    have HR2 := hid hr2
    have HG2 := hid (grown_trans' (grown_of_below ((Below.refl w1.heap.size w1).alloc (Nat.le_refl _) _)) hg2)
    clear hr2 hg2
    have e1 : (0 : Int) ≤ (v : Int) := by omega
    have e2 : (v : Int) < 5 := by omega
    go_wp2_with fail
    go_ret
    exact ⟨s, hs, rfl, HR2.out, grown_trans' HG1.out HG2.out⟩
  · go_wp2_with fail
    go_ret
    exact ⟨_, by decide, rfl, HR1.out, HG1.out⟩
end Go.Proofs.Ytoipcjdpfbgghab
