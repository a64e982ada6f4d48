/-
  FnExactMerged answers true at every three lists of pairs, and its arguments read as they did. No condition.
-/
import Derived.Test.YtoipcjdpfbgghaaMadeKit
import Derived.Test.YtoipcjdpfbgghaaChgMarks
import Derived.Test.YtoipcjdpfbgghaaDeltaOk
import Derived.Test.YtoipcjdpfbgghaaOpenChg
import Derived.Test.YtoipcjdpfbgghaaPost
import Derived.Test.YtoipcjdpfbgghaaOpen
import Derived.Test.YtoipcjdpfbgghaaDeltaN
namespace Go.Proofs.Ytoipcjdpfbgghaa
open Go.ChangeShapes Go.WideShapes Go.ChangeAt Go.RowKit

theorem mergeR_small (ms ps qs : PS) : (mergeR ms ps qs).length ≤ 60 ∧ (mergeT ms ps qs).length ≤ 120 := by
  unfold mergeR mergeT
  split
  · rename_i h
    simp only [mergeB, Bool.and_eq_true, decide_eq_true_eq] at h
    exact ⟨h.2.2.2, Nat.le_trans (unlikeL_len _ _) (len_delta h.1 h.2.2.1)⟩
  · simp
theorem exactMerged_len0 {ms ps qs : PS} (_h0 : ms.length ≤ 1048576) (_h1 : ps.length ≤ 1048576) (_h2 : qs.length ≤ 1048576) : Hid ((mergeR ms ps qs).length ≤ 1100000) := by
  have := (mergeR_small ms ps qs).1
  unfold Hid
  omega
theorem exactMerged_len1 {ms ps qs : PS} (_h0 : ms.length ≤ 1048576) (_h1 : ps.length ≤ 1048576) (_h2 : qs.length ≤ 1048576) : Hid ((mergeT ms ps qs).length ≤ 1100000) := by
  have := (mergeR_small ms ps qs).2
  unfold Hid
  omega

set_option maxHeartbeats 8000000 in
set_option maxRecDepth 100000 in
theorem exactMerged_walk (A0 : Option Addr) (c0 : Nat) (ms : PS) (A1 : Option Addr) (c1 : Nat) (ps : PS) (A2 : Option Addr) (c2 : Nat) (qs : PS) (w : World) (hr0 : RP w w.heap.size A0 ms) (hf0 : Fits ms) (hn0 : ms.length ≤ maxLen) (hr1 : RP w w.heap.size A1 ps) (hf1 : Fits ps) (hn1 : ps.length ≤ maxLen) (hr2 : RP w w.heap.size A2 qs) (hf2 : Fits qs) (hn2 : qs.length ≤ maxLen) :
    Calls Try.prog 7 #[.slice A0 ms.length c0, .slice A1 ps.length c1, .slice A2 qs.length c2] w fun e w' => e = .returned (.bool true) ∧ Below w.heap.size w w' := by
  have HR0 := hid hr0
  have HF0 := hid hf0
  have HN0 := hid hn0
  have HR1 := hid hr1
  have HF1 := hid hf1
  have HN1 := hid hn1
  have HR2 := hid hr2
  have HF2 := hid hf2
  have HN2 := hid hn2
  clear hr0 hf0 hn0 hr1 hf1 hn1 hr2 hf2 hn2
  go_enter Try.func7, Try.ntmps7
  go_wp2_with fail
  refine (szPairS_any A0 c0 ms 1048576 _ HR0.out HF0.out HN0.out (by omega) (by omega)).mono ?_
  rintro e w1 ⟨r0, rfl, hl0, hu0, hz, hb⟩
  have C0_1 := hid (hb)
  have hs1 : w.heap.size ≤ w1.heap.size := hb.size
  have HZ0 := hid hz
  clear hz
  clear hb
  by_cases hneg0 : r0 < 0
  · go_wp2_with fail
    go_ret
    exact ⟨rfl, C0_1.out⟩
  have sm0 : ms.length ≤ 1048576 := by have := (HZ0.out (by omega)).1; omega
  go_wp2_with fail
  refine (szPairS_any A1 c1 ps r0 _ ((HR1.out.below C0_1.out).more C0_1.out.size) HF1.out HN1.out (by omega) (by omega)).mono ?_
  rintro e w2 ⟨r1, rfl, hl1, hu1, hz, hb⟩
  have C0_2 := hid (C0_1.out.trans (hb.mono C0_1.out.size))
  have hs2 : w1.heap.size ≤ w2.heap.size := hb.size
  have HZ1 := hid hz
  clear hz
  clear hb
  by_cases hneg1 : r1 < 0
  · go_wp2_with fail
    go_ret
    exact ⟨rfl, C0_2.out⟩
  have sm1 : ps.length ≤ 1048576 := by have := (HZ1.out (by omega)).1; omega
  go_wp2_with fail
  refine (szPairS_any A2 c2 qs r1 _ ((HR2.out.below C0_2.out).more C0_2.out.size) HF2.out HN2.out (by omega) (by omega)).mono ?_
  rintro e w3 ⟨r2, rfl, hl2, hu2, hz, hb⟩
  have C0_3 := hid (C0_2.out.trans (hb.mono C0_2.out.size))
  have hs3 : w2.heap.size ≤ w3.heap.size := hb.size
  have HZ2 := hid hz
  clear hz
  clear hb
  by_cases hneg2 : r2 < 0
  · go_wp2_with fail
    go_ret
    exact ⟨rfl, C0_3.out⟩
  have sm2 : qs.length ≤ 1048576 := by have := (HZ2.out (by omega)).1; omega
  go_wp2_with fail
  refine (toPairS_any A0 c0 ms _ ((HR0.out.below C0_3.out).more C0_3.out.size) sm0).mono ?_
  rintro e w4 ⟨At0, ct0, rfl, ho, hb⟩
  have C0_4 := hid (C0_3.out.trans (hb.mono C0_3.out.size))
  have hs4 : w3.heap.size ≤ w4.heap.size := hb.size
  clear hb
  have Ot0 := hid ho
  have Zt0 := hid ho.size
  clear ho
  go_wp2_with fail
  refine (toPairS_any A1 c1 ps _ ((HR1.out.below C0_4.out).more C0_4.out.size) sm1).mono ?_
  rintro e w5 ⟨At1, ct1, rfl, ho, hb⟩
  have C0_5 := hid (C0_4.out.trans (hb.mono C0_4.out.size))
  have C4_5 := hid (hb)
  have hs5 : w4.heap.size ≤ w5.heap.size := hb.size
  clear hb
  have Ot1 := hid ho
  have Zt1 := hid ho.size
  clear ho
  go_wp2_with fail
  refine (toPairS_any A2 c2 qs _ ((HR2.out.below C0_5.out).more C0_5.out.size) sm2).mono ?_
  rintro e w6 ⟨At2, ct2, rfl, ho, hb⟩
  have C0_6 := hid (C0_5.out.trans (hb.mono C0_5.out.size))
  have C4_6 := hid (C4_5.out.trans (hb.mono C4_5.out.size))
  have C5_6 := hid (hb)
  have hs6 : w5.heap.size ≤ w6.heap.size := hb.size
  clear hb
  have Ot2 := hid ho
  have Zt2 := hid ho.size
  clear ho
  go_wp2_with fail
  refine (spec_Merged At0 ct0 ms At1 ct1 ps At2 ct2 qs _ (Ot0.out.below C4_6.out).rp HF0.out HN0.out (Ot1.out.below C5_6.out).rp HF1.out HN1.out Ot2.out.rp HF2.out HN2.out).mono ?_
  rintro e w7 ⟨Av0, cv0, Av1, cv1, rfl, hov0, hov1, hb⟩
  have C0_7 := hid (C0_6.out.trans (hb.mono C0_6.out.size))
  have C4_7 := hid (C4_6.out.trans (hb.mono C4_6.out.size))
  have C5_7 := hid (C5_6.out.trans (hb.mono C5_6.out.size))
  have C6_7 := hid (hb)
  have hs7 : w6.heap.size ≤ w7.heap.size := hb.size
  clear hb
  have Ov0 := hid hov0
  have Zv0 := hid hov0.size
  clear hov0
  have Ov1 := hid hov1
  have Zv1 := hid hov1.size
  clear hov1
  go_wp2_with fail
  refine (toPairS_any A0 c0 ms _ ((HR0.out.below C0_7.out).more C0_7.out.size) sm0).mono ?_
  rintro e w8 ⟨Ax0, cx0, rfl, ho, hb⟩
  have C0_8 := hid (C0_7.out.trans (hb.mono C0_7.out.size))
  have C4_8 := hid (C4_7.out.trans (hb.mono C4_7.out.size))
  have C5_8 := hid (C5_7.out.trans (hb.mono C5_7.out.size))
  have C6_8 := hid (C6_7.out.trans (hb.mono C6_7.out.size))
  have C7_8 := hid (hb)
  have hs8 : w7.heap.size ≤ w8.heap.size := hb.size
  clear hb
  have Ox0 := hid ho
  have Zx0 := hid ho.size
  clear ho
  go_wp2_with fail
  refine (toPairS_any A1 c1 ps _ ((HR1.out.below C0_8.out).more C0_8.out.size) sm1).mono ?_
  rintro e w9 ⟨Ax1, cx1, rfl, ho, hb⟩
  have C0_9 := hid (C0_8.out.trans (hb.mono C0_8.out.size))
  have C4_9 := hid (C4_8.out.trans (hb.mono C4_8.out.size))
  have C5_9 := hid (C5_8.out.trans (hb.mono C5_8.out.size))
  have C6_9 := hid (C6_8.out.trans (hb.mono C6_8.out.size))
  have C7_9 := hid (C7_8.out.trans (hb.mono C7_8.out.size))
  have C8_9 := hid (hb)
  have hs9 : w8.heap.size ≤ w9.heap.size := hb.size
  clear hb
  have Ox1 := hid ho
  have Zx1 := hid ho.size
  clear ho
  go_wp2_with fail
  refine (toPairS_any A2 c2 qs _ ((HR2.out.below C0_9.out).more C0_9.out.size) sm2).mono ?_
  rintro e w10 ⟨Ax2, cx2, rfl, ho, hb⟩
  have C0_10 := hid (C0_9.out.trans (hb.mono C0_9.out.size))
  have C4_10 := hid (C4_9.out.trans (hb.mono C4_9.out.size))
  have C5_10 := hid (C5_9.out.trans (hb.mono C5_9.out.size))
  have C6_10 := hid (C6_9.out.trans (hb.mono C6_9.out.size))
  have C7_10 := hid (C7_9.out.trans (hb.mono C7_9.out.size))
  have C8_10 := hid (C8_9.out.trans (hb.mono C8_9.out.size))
  have C9_10 := hid (hb)
  have hs10 : w9.heap.size ≤ w10.heap.size := hb.size
  clear hb
  have Ox2 := hid ho
  have Zx2 := hid ho.size
  clear ho
  have HL0 : Hid ((mergeR ms ps qs).length ≤ 1100000) := exactMerged_len0 sm0 sm1 sm2
  have HL1 : Hid ((mergeT ms ps qs).length ≤ 1100000) := exactMerged_len1 sm0 sm1 sm2
  go_wp2_with fail
  refine (impl_Merged Ax0 cx0 ms Ax1 cx1 ps Ax2 cx2 qs _ (Ox0.out.below C8_10.out).rp HF0.out HN0.out (Ox1.out.below C9_10.out).rp HF1.out HN1.out Ox2.out.rp HF2.out HN2.out (Ox1.out.below C9_10.out).vs).mono ?_
  rintro e w11 ⟨Ag0, cg0, Ag1, cg1, rfl, hog0, hog1, hb⟩
  have C0_11 := hid (C0_10.out.trans (hb.mono C0_10.out.size))
  have C4_11 := hid (C4_10.out.trans (hb.mono C4_10.out.size))
  have C5_11 := hid (C5_10.out.trans (hb.mono C5_10.out.size))
  have C6_11 := hid (C6_10.out.trans (hb.mono C6_10.out.size))
  have C7_11 := hid (C7_10.out.trans (hb.mono C7_10.out.size))
  have C8_11 := hid (C8_10.out.trans (hb.mono C8_10.out.size))
  have C9_11 := hid (C9_10.out.trans (hb.mono C9_10.out.size))
  have C10_11 := hid (hb)
  have hs11 : w10.heap.size ≤ w11.heap.size := hb.size
  clear hb
  have Og0 := hid hog0
  have Zg0 := hid hog0.size
  clear hog0
  have Og1 := hid hog1
  have Zg1 := hid hog1.size
  clear hog1
  have hbb : (mergeB ms ps qs != mergeB ms ps qs) = false := by simp
  have ht : decide (mergeR ms ps qs = mergeR ms ps qs) = true := by simp
  go_wp2_with fail
  refine (eqPairS_any Ag0 Av0 cg0 cv0 (mergeR ms ps qs) (mergeR ms ps qs) _ Og0.out.rp (Ov0.out.below C7_11.out).rp (by have := HL0.out; unfold maxLen; omega)).mono ?_
  rintro e w12 ⟨rfl, hb⟩
  have C0_12 := hid (C0_11.out.trans (hb.mono C0_11.out.size))
  have C4_12 := hid (C4_11.out.trans (hb.mono C4_11.out.size))
  have C5_12 := hid (C5_11.out.trans (hb.mono C5_11.out.size))
  have C6_12 := hid (C6_11.out.trans (hb.mono C6_11.out.size))
  have C7_12 := hid (C7_11.out.trans (hb.mono C7_11.out.size))
  have C8_12 := hid (C8_11.out.trans (hb.mono C8_11.out.size))
  have C9_12 := hid (C9_11.out.trans (hb.mono C9_11.out.size))
  have C10_12 := hid (C10_11.out.trans (hb.mono C10_11.out.size))
  have C11_12 := hid (hb)
  have hs12 : w11.heap.size ≤ w12.heap.size := hb.size
  clear hb
  clear ht
  go_wp2_with fail
  refine (eqStringS_same Ag1 Av1 cg1 cv1 (mergeT ms ps qs) _ (Og1.out.below C11_12.out).rt (Ov1.out.below C7_12.out).rt (by have := HL1.out; unfold maxLen; omega)).mono ?_
  rintro e w13 ⟨rfl, hb⟩
  have C0_13 := hid (C0_12.out.trans (hb.mono C0_12.out.size))
  have C4_13 := hid (C4_12.out.trans (hb.mono C4_12.out.size))
  have C5_13 := hid (C5_12.out.trans (hb.mono C5_12.out.size))
  have C6_13 := hid (C6_12.out.trans (hb.mono C6_12.out.size))
  have C7_13 := hid (C7_12.out.trans (hb.mono C7_12.out.size))
  have C8_13 := hid (C8_12.out.trans (hb.mono C8_12.out.size))
  have C9_13 := hid (C9_12.out.trans (hb.mono C9_12.out.size))
  have C10_13 := hid (C10_12.out.trans (hb.mono C10_12.out.size))
  have C11_13 := hid (C11_12.out.trans (hb.mono C11_12.out.size))
  have hs13 : w12.heap.size ≤ w13.heap.size := hb.size
  clear hb
  go_wp2_with fail
  refine (toPairS_any A0 c0 ms _ ((HR0.out.below C0_13.out).more C0_13.out.size) sm0).mono ?_
  rintro e w14 ⟨Ay0, cy0, rfl, ho, hb⟩
  have C0_14 := hid (C0_13.out.trans (hb.mono C0_13.out.size))
  have C4_14 := hid (C4_13.out.trans (hb.mono C4_13.out.size))
  have C5_14 := hid (C5_13.out.trans (hb.mono C5_13.out.size))
  have C6_14 := hid (C6_13.out.trans (hb.mono C6_13.out.size))
  have C7_14 := hid (C7_13.out.trans (hb.mono C7_13.out.size))
  have C8_14 := hid (C8_13.out.trans (hb.mono C8_13.out.size))
  have C9_14 := hid (C9_13.out.trans (hb.mono C9_13.out.size))
  have C10_14 := hid (C10_13.out.trans (hb.mono C10_13.out.size))
  have C11_14 := hid (C11_13.out.trans (hb.mono C11_13.out.size))
  have hs14 : w13.heap.size ≤ w14.heap.size := hb.size
  clear hb
  have Oy0 := hid ho
  have Zy0 := hid ho.size
  clear ho
  have ht : decide (ms = ms) = true := by simp
  go_wp2_with fail
  refine (eqPairS_any Ax0 Ay0 cx0 cy0 (ms) (ms) _ (Ox0.out.below C8_14.out).rp Oy0.out.rp HN0.out).mono ?_
  rintro e w15 ⟨rfl, hb⟩
  have C0_15 := hid (C0_14.out.trans (hb.mono C0_14.out.size))
  have C4_15 := hid (C4_14.out.trans (hb.mono C4_14.out.size))
  have C5_15 := hid (C5_14.out.trans (hb.mono C5_14.out.size))
  have C6_15 := hid (C6_14.out.trans (hb.mono C6_14.out.size))
  have C7_15 := hid (C7_14.out.trans (hb.mono C7_14.out.size))
  have C8_15 := hid (C8_14.out.trans (hb.mono C8_14.out.size))
  have C9_15 := hid (C9_14.out.trans (hb.mono C9_14.out.size))
  have C10_15 := hid (C10_14.out.trans (hb.mono C10_14.out.size))
  have C11_15 := hid (C11_14.out.trans (hb.mono C11_14.out.size))
  have C14_15 := hid (hb)
  have hs15 : w14.heap.size ≤ w15.heap.size := hb.size
  clear hb
  clear ht
  go_wp2_with fail
  refine (toPairS_any A1 c1 ps _ ((HR1.out.below C0_15.out).more C0_15.out.size) sm1).mono ?_
  rintro e w16 ⟨Ay1, cy1, rfl, ho, hb⟩
  have C0_16 := hid (C0_15.out.trans (hb.mono C0_15.out.size))
  have C4_16 := hid (C4_15.out.trans (hb.mono C4_15.out.size))
  have C5_16 := hid (C5_15.out.trans (hb.mono C5_15.out.size))
  have C6_16 := hid (C6_15.out.trans (hb.mono C6_15.out.size))
  have C7_16 := hid (C7_15.out.trans (hb.mono C7_15.out.size))
  have C8_16 := hid (C8_15.out.trans (hb.mono C8_15.out.size))
  have C9_16 := hid (C9_15.out.trans (hb.mono C9_15.out.size))
  have C10_16 := hid (C10_15.out.trans (hb.mono C10_15.out.size))
  have C11_16 := hid (C11_15.out.trans (hb.mono C11_15.out.size))
  have C14_16 := hid (C14_15.out.trans (hb.mono C14_15.out.size))
  have hs16 : w15.heap.size ≤ w16.heap.size := hb.size
  clear hb
  have Oy1 := hid ho
  have Zy1 := hid ho.size
  clear ho
  have ht : decide (ps = ps) = true := by simp
  go_wp2_with fail
  refine (eqPairS_any Ax1 Ay1 cx1 cy1 (ps) (ps) _ (Ox1.out.below C9_16.out).rp Oy1.out.rp HN1.out).mono ?_
  rintro e w17 ⟨rfl, hb⟩
  have C0_17 := hid (C0_16.out.trans (hb.mono C0_16.out.size))
  have C4_17 := hid (C4_16.out.trans (hb.mono C4_16.out.size))
  have C5_17 := hid (C5_16.out.trans (hb.mono C5_16.out.size))
  have C6_17 := hid (C6_16.out.trans (hb.mono C6_16.out.size))
  have C7_17 := hid (C7_16.out.trans (hb.mono C7_16.out.size))
  have C8_17 := hid (C8_16.out.trans (hb.mono C8_16.out.size))
  have C9_17 := hid (C9_16.out.trans (hb.mono C9_16.out.size))
  have C10_17 := hid (C10_16.out.trans (hb.mono C10_16.out.size))
  have C11_17 := hid (C11_16.out.trans (hb.mono C11_16.out.size))
  have C14_17 := hid (C14_16.out.trans (hb.mono C14_16.out.size))
  have C16_17 := hid (hb)
  have hs17 : w16.heap.size ≤ w17.heap.size := hb.size
  clear hb
  clear ht
  go_wp2_with fail
  refine (toPairS_any A2 c2 qs _ ((HR2.out.below C0_17.out).more C0_17.out.size) sm2).mono ?_
  rintro e w18 ⟨Ay2, cy2, rfl, ho, hb⟩
  have C0_18 := hid (C0_17.out.trans (hb.mono C0_17.out.size))
  have C4_18 := hid (C4_17.out.trans (hb.mono C4_17.out.size))
  have C5_18 := hid (C5_17.out.trans (hb.mono C5_17.out.size))
  have C6_18 := hid (C6_17.out.trans (hb.mono C6_17.out.size))
  have C7_18 := hid (C7_17.out.trans (hb.mono C7_17.out.size))
  have C8_18 := hid (C8_17.out.trans (hb.mono C8_17.out.size))
  have C9_18 := hid (C9_17.out.trans (hb.mono C9_17.out.size))
  have C10_18 := hid (C10_17.out.trans (hb.mono C10_17.out.size))
  have C11_18 := hid (C11_17.out.trans (hb.mono C11_17.out.size))
  have C14_18 := hid (C14_17.out.trans (hb.mono C14_17.out.size))
  have C16_18 := hid (C16_17.out.trans (hb.mono C16_17.out.size))
  have hs18 : w17.heap.size ≤ w18.heap.size := hb.size
  clear hb
  have Oy2 := hid ho
  have Zy2 := hid ho.size
  clear ho
  have ht : decide (qs = qs) = true := by simp
  go_wp2_with fail
  refine (eqPairS_any Ax2 Ay2 cx2 cy2 (qs) (qs) _ (Ox2.out.below C10_18.out).rp Oy2.out.rp HN2.out).mono ?_
  rintro e w19 ⟨rfl, hb⟩
  have C0_19 := hid (C0_18.out.trans (hb.mono C0_18.out.size))
  have C4_19 := hid (C4_18.out.trans (hb.mono C4_18.out.size))
  have C5_19 := hid (C5_18.out.trans (hb.mono C5_18.out.size))
  have C6_19 := hid (C6_18.out.trans (hb.mono C6_18.out.size))
  have C7_19 := hid (C7_18.out.trans (hb.mono C7_18.out.size))
  have C8_19 := hid (C8_18.out.trans (hb.mono C8_18.out.size))
  have C9_19 := hid (C9_18.out.trans (hb.mono C9_18.out.size))
  have C10_19 := hid (C10_18.out.trans (hb.mono C10_18.out.size))
  have C11_19 := hid (C11_18.out.trans (hb.mono C11_18.out.size))
  have C14_19 := hid (C14_18.out.trans (hb.mono C14_18.out.size))
  have C16_19 := hid (C16_18.out.trans (hb.mono C16_18.out.size))
  have C18_19 := hid (hb)
  have hs19 : w18.heap.size ≤ w19.heap.size := hb.size
  clear hb
  clear ht
  go_wp2_with fail
  refine (markPairS_any w7.heap.size Ax0 cx0 (ms) (1) _ (Ox0.out.below C8_19.out) (by omega) (by omega)).mono ?_
  rintro e w20 ⟨rfl, hm, hg⟩
  have hs20 : w19.heap.size ≤ w20.heap.size := hg.size
  have N1 := hid ((Ov0.out.below C7_19.out).keepG hg (fun q hq e => by have := Zv0.out q hq; have := Zx0.out q e.symm; omega))
  have N2 := hid ((Ov1.out.below C7_19.out).keepG hg (own_types (by decide) (Ov1.out.below C7_19.out) (Ox0.out.below C8_19.out)))
  have N3 := hid ((Ox1.out.below C9_19.out).keepG hg (fun q hq e => by have := Zx1.out q hq; have := Zx0.out q e.symm; omega))
  have N4 := hid ((Ox2.out.below C10_19.out).keepG hg (fun q hq e => by have := Zx2.out q hq; have := Zx0.out q e.symm; omega))
  have N5 := hid ((Og0.out.below C11_19.out).keepG hg (fun q hq e => by have := Zg0.out q hq; have := Zx0.out q e.symm; omega))
  have N6 := hid ((Og1.out.below C11_19.out).keepG hg (own_types (by decide) (Og1.out.below C11_19.out) (Ox0.out.below C8_19.out)))
  have C0_20 := hid (C0_19.out.grown hg C0_19.out.size (fun q hq => by have := (Zx0.out q hq).1; omega))
  clear hg
  clear hm
  go_wp2_with fail
  refine (markPairS_any w8.heap.size Ax1 cx1 (ps) (1 + 2 * ms.length) _ N3.out (by omega) (by omega)).mono ?_
  rintro e w21 ⟨rfl, hm, hg⟩
  have hs21 : w20.heap.size ≤ w21.heap.size := hg.size
  have N7 := hid (N1.out.keepG hg (fun q hq e => by have := Zv0.out q hq; have := Zx1.out q e.symm; omega))
  have N8 := hid (N2.out.keepG hg (own_types (by decide) N2.out N3.out))
  have N9 := hid (N4.out.keepG hg (fun q hq e => by have := Zx2.out q hq; have := Zx1.out q e.symm; omega))
  have N10 := hid (N5.out.keepG hg (fun q hq e => by have := Zg0.out q hq; have := Zx1.out q e.symm; omega))
  have N11 := hid (N6.out.keepG hg (own_types (by decide) N6.out N3.out))
  have C0_21 := hid (C0_20.out.grown hg C0_20.out.size (fun q hq => by have := (Zx1.out q hq).1; omega))
  clear hg
  clear hm
  go_wp2_with fail
  refine (markPairS_any w9.heap.size Ax2 cx2 (qs) (1 + 2 * ms.length + 2 * ps.length) _ N9.out (by omega) (by omega)).mono ?_
  rintro e w22 ⟨rfl, hm, hg⟩
  have hs22 : w21.heap.size ≤ w22.heap.size := hg.size
  have N12 := hid (N7.out.keepG hg (fun q hq e => by have := Zv0.out q hq; have := Zx2.out q e.symm; omega))
  have N13 := hid (N8.out.keepG hg (own_types (by decide) N8.out N9.out))
  have N14 := hid (N10.out.keepG hg (fun q hq e => by have := Zg0.out q hq; have := Zx2.out q e.symm; omega))
  have N15 := hid (N11.out.keepG hg (own_types (by decide) N11.out N9.out))
  have C0_22 := hid (C0_21.out.grown hg C0_21.out.size (fun q hq => by have := (Zx2.out q hq).1; omega))
  clear hg
  clear hm
  have q1 : ¬ (((1 + 2 * ms.length + 2 * ps.length + 2 * qs.length : Nat) : Int) < 0) := by omega
  have ht : decide (mergeR ms ps qs = mergeR ms ps qs) = true := by simp
  go_wp2_with fail
  refine (eqPairS_any Ag0 Av0 cg0 cv0 (mergeR ms ps qs) (mergeR ms ps qs) _ N14.out.rp N12.out.rp (by have := HL0.out; unfold maxLen; omega)).mono ?_
  rintro e w23 ⟨rfl, hb⟩
  have C0_23 := hid (C0_22.out.trans (hb.mono C0_22.out.size))
  have C22_23 := hid (hb)
  have hs23 : w22.heap.size ≤ w23.heap.size := hb.size
  clear hb
  clear ht
  go_wp2_with fail
  refine (eqStringS_same Ag1 Av1 cg1 cv1 (mergeT ms ps qs) _ (N15.out.below C22_23.out).rt (N13.out.below C22_23.out).rt (by have := HL1.out; unfold maxLen; omega)).mono ?_
  rintro e w24 ⟨rfl, hb⟩
  have C0_24 := hid (C0_23.out.trans (hb.mono C0_23.out.size))
  have C22_24 := hid (C22_23.out.trans (hb.mono C22_23.out.size))
  have hs24 : w23.heap.size ≤ w24.heap.size := hb.size
  clear hb
  go_wp2_with fail
  refine (markPairS_any w10.heap.size Ag0 cg0 (mergeR ms ps qs) (1) _ (N14.out.below C22_24.out) (by have := HL0.out; omega) (by omega)).mono ?_
  rintro e w25 ⟨rfl, hm, hg⟩
  have hs25 : w24.heap.size ≤ w25.heap.size := hg.size
  have N16 := hid ((N12.out.below C22_24.out).keepG hg (fun q hq e => by have := Zv0.out q hq; have := Zg0.out q e.symm; omega))
  have N17 := hid ((N13.out.below C22_24.out).keepG hg (own_types (by decide) (N13.out.below C22_24.out) (N14.out.below C22_24.out)))
  have N18 := hid ((N15.out.below C22_24.out).keepG hg (own_types (by decide) (N15.out.below C22_24.out) (N14.out.below C22_24.out)))
  have C0_25 := hid (C0_24.out.grown hg C0_24.out.size (fun q hq => by have := (Zg0.out q hq).1; omega))
  clear hg
  have OM0 : Hid (OwnP w25 (w10.heap.size) Ag0 cg0 (marksL (mergeR ms ps qs).length (1))) := by
    unfold Hid OwnP
    rw [marksL_len]
    exact hm
  clear hm
  have ZM0 := hid OM0.out.size
  go_wp2_with fail
  refine (markStringS_any w10.heap.size Ag1 cg1 (mergeT ms ps qs) (1 + 2 * (mergeR ms ps qs).length) _ N18.out (by have := HL1.out; omega) (by have := HL0.out; omega)).mono ?_
  rintro e w26 ⟨rfl, hm, hg⟩
  have hs26 : w25.heap.size ≤ w26.heap.size := hg.size
  have N19 := hid (N16.out.keepG hg (own_types (by decide) N16.out N18.out))
  have N20 := hid (N17.out.keepG hg (fun q hq e => by have := Zv1.out q hq; have := Zg1.out q e.symm; omega))
  have N21 := hid (OM0.out.keepG hg (own_types (by decide) OM0.out N18.out))
  have C0_26 := hid (C0_25.out.grown hg C0_25.out.size (fun q hq => by have := (Zg1.out q hq).1; omega))
  clear hg
  have OM1 := hid hm
  clear hm
  have ZM1 := hid OM1.out.size
  go_wp2_with fail
  refine (heldPairS_any Ag0 cg0 (mergeR ms ps qs).length (1) _ N21.out.rp (by have := HL0.out; omega) (by omega)).mono ?_
  rintro e w27 ⟨rfl, hb⟩
  have C0_27 := hid (C0_26.out.trans (hb.mono C0_26.out.size))
  have C26_27 := hid (hb)
  have hs27 : w26.heap.size ≤ w27.heap.size := hb.size
  clear hb
  have q2_0 : ¬ (((1 + 2 * (mergeR ms ps qs).length : Nat) : Int) < 0) := by omega
  have q3_0 : ((((1 + 2 * (mergeR ms ps qs).length : Nat) : Int)) != (((1 + 2 * (mergeR ms ps qs).length : Nat) : Int))) = false := by simp
  go_wp2_with fail
  refine (heldStringS_any Ag1 cg1 (mergeT ms ps qs).length (1 + 2 * (mergeR ms ps qs).length) _ (OM1.out.below C26_27.out).rt (by have := HL1.out; omega) (by have := HL0.out; omega)).mono ?_
  rintro e w28 ⟨rfl, hb⟩
  have C0_28 := hid (C0_27.out.trans (hb.mono C0_27.out.size))
  have C26_28 := hid (C26_27.out.trans (hb.mono C26_27.out.size))
  have hs28 : w27.heap.size ≤ w28.heap.size := hb.size
  clear hb
  have q2_1 : ¬ (((1 + 2 * (mergeR ms ps qs).length + (mergeT ms ps qs).length : Nat) : Int) < 0) := by omega
  have q3_1 : ((((1 + 2 * (mergeR ms ps qs).length + (mergeT ms ps qs).length : Nat) : Int)) != (((1 + 2 * (mergeR ms ps qs).length + (mergeT ms ps qs).length : Nat) : Int))) = false := by simp
  go_wp2_with fail
  refine (toPairS_any A0 c0 ms _ ((HR0.out.below C0_28.out).more C0_28.out.size) sm0).mono ?_
  rintro e w29 ⟨Au0, cu0, rfl, ho, hb⟩
  have C0_29 := hid (C0_28.out.trans (hb.mono C0_28.out.size))
  have C26_29 := hid (C26_28.out.trans (hb.mono C26_28.out.size))
  have hs29 : w28.heap.size ≤ w29.heap.size := hb.size
  clear hb
  have Ou0 := hid ho
  have Zu0 := hid ho.size
  clear ho
  go_wp2_with fail
  refine (toPairS_any A1 c1 ps _ ((HR1.out.below C0_29.out).more C0_29.out.size) sm1).mono ?_
  rintro e w30 ⟨Au1, cu1, rfl, ho, hb⟩
  have C0_30 := hid (C0_29.out.trans (hb.mono C0_29.out.size))
  have C26_30 := hid (C26_29.out.trans (hb.mono C26_29.out.size))
  have C29_30 := hid (hb)
  have hs30 : w29.heap.size ≤ w30.heap.size := hb.size
  clear hb
  have Ou1 := hid ho
  have Zu1 := hid ho.size
  clear ho
  go_wp2_with fail
  refine (toPairS_any A2 c2 qs _ ((HR2.out.below C0_30.out).more C0_30.out.size) sm2).mono ?_
  rintro e w31 ⟨Au2, cu2, rfl, ho, hb⟩
  have C0_31 := hid (C0_30.out.trans (hb.mono C0_30.out.size))
  have C26_31 := hid (C26_30.out.trans (hb.mono C26_30.out.size))
  have C29_31 := hid (C29_30.out.trans (hb.mono C29_30.out.size))
  have C30_31 := hid (hb)
  have hs31 : w30.heap.size ≤ w31.heap.size := hb.size
  clear hb
  have Ou2 := hid ho
  have Zu2 := hid ho.size
  clear ho
  go_wp2_with fail
  refine (impl_Merged Au0 cu0 ms Au1 cu1 ps Au2 cu2 qs _ (Ou0.out.below C29_31.out).rp HF0.out HN0.out (Ou1.out.below C30_31.out).rp HF1.out HN1.out Ou2.out.rp HF2.out HN2.out (Ou1.out.below C30_31.out).vs).mono ?_
  rintro e w32 ⟨Ah0, ch0, Ah1, ch1, rfl, hoh0, hoh1, hb⟩
  have C0_32 := hid (C0_31.out.trans (hb.mono C0_31.out.size))
  have C26_32 := hid (C26_31.out.trans (hb.mono C26_31.out.size))
  have C29_32 := hid (C29_31.out.trans (hb.mono C29_31.out.size))
  have C30_32 := hid (C30_31.out.trans (hb.mono C30_31.out.size))
  have C31_32 := hid (hb)
  have hs32 : w31.heap.size ≤ w32.heap.size := hb.size
  clear hb
  have Oh0 := hid hoh0
  have Zh0 := hid hoh0.size
  clear hoh0
  have Oh1 := hid hoh1
  have Zh1 := hid hoh1.size
  clear hoh1
  have ht : decide (mergeR ms ps qs = mergeR ms ps qs) = true := by simp
  go_wp2_with fail
  refine (eqPairS_any Ah0 Av0 ch0 cv0 (mergeR ms ps qs) (mergeR ms ps qs) _ Oh0.out.rp (N19.out.below C26_32.out).rp (by have := HL0.out; unfold maxLen; omega)).mono ?_
  rintro e w33 ⟨rfl, hb⟩
  have C0_33 := hid (C0_32.out.trans (hb.mono C0_32.out.size))
  have C26_33 := hid (C26_32.out.trans (hb.mono C26_32.out.size))
  have C29_33 := hid (C29_32.out.trans (hb.mono C29_32.out.size))
  have C30_33 := hid (C30_32.out.trans (hb.mono C30_32.out.size))
  have C31_33 := hid (C31_32.out.trans (hb.mono C31_32.out.size))
  have C32_33 := hid (hb)
  have hs33 : w32.heap.size ≤ w33.heap.size := hb.size
  clear hb
  clear ht
  go_wp2_with fail
  refine (eqStringS_same Ah1 Av1 ch1 cv1 (mergeT ms ps qs) _ (Oh1.out.below C32_33.out).rt (N20.out.below C26_33.out).rt (by have := HL1.out; unfold maxLen; omega)).mono ?_
  rintro e w34 ⟨rfl, hb⟩
  have C0_34 := hid (C0_33.out.trans (hb.mono C0_33.out.size))
  have C26_34 := hid (C26_33.out.trans (hb.mono C26_33.out.size))
  have C29_34 := hid (C29_33.out.trans (hb.mono C29_33.out.size))
  have C30_34 := hid (C30_33.out.trans (hb.mono C30_33.out.size))
  have C31_34 := hid (C31_33.out.trans (hb.mono C31_33.out.size))
  have C32_34 := hid (C32_33.out.trans (hb.mono C32_33.out.size))
  have hs34 : w33.heap.size ≤ w34.heap.size := hb.size
  clear hb
  go_wp2_with fail
  refine (heldPairS_any Ag0 cg0 (mergeR ms ps qs).length (1) _ (N21.out.below C26_34.out).rp (by have := HL0.out; omega) (by omega)).mono ?_
  rintro e w35 ⟨rfl, hb⟩
  have C0_35 := hid (C0_34.out.trans (hb.mono C0_34.out.size))
  have C26_35 := hid (C26_34.out.trans (hb.mono C26_34.out.size))
  have C29_35 := hid (C29_34.out.trans (hb.mono C29_34.out.size))
  have C30_35 := hid (C30_34.out.trans (hb.mono C30_34.out.size))
  have C31_35 := hid (C31_34.out.trans (hb.mono C31_34.out.size))
  have C32_35 := hid (C32_34.out.trans (hb.mono C32_34.out.size))
  have hs35 : w34.heap.size ≤ w35.heap.size := hb.size
  clear hb
  have q2_0 : ¬ (((1 + 2 * (mergeR ms ps qs).length : Nat) : Int) < 0) := by omega
  have q3_0 : ((((1 + 2 * (mergeR ms ps qs).length : Nat) : Int)) != (((1 + 2 * (mergeR ms ps qs).length : Nat) : Int))) = false := by simp
  go_wp2_with fail
  refine (heldStringS_any Ag1 cg1 (mergeT ms ps qs).length (1 + 2 * (mergeR ms ps qs).length) _ (OM1.out.below C26_35.out).rt (by have := HL1.out; omega) (by have := HL0.out; omega)).mono ?_
  rintro e w36 ⟨rfl, hb⟩
  have C0_36 := hid (C0_35.out.trans (hb.mono C0_35.out.size))
  have C26_36 := hid (C26_35.out.trans (hb.mono C26_35.out.size))
  have C29_36 := hid (C29_35.out.trans (hb.mono C29_35.out.size))
  have C30_36 := hid (C30_35.out.trans (hb.mono C30_35.out.size))
  have C31_36 := hid (C31_35.out.trans (hb.mono C31_35.out.size))
  have C32_36 := hid (C32_35.out.trans (hb.mono C32_35.out.size))
  have hs36 : w35.heap.size ≤ w36.heap.size := hb.size
  clear hb
  have q2_1 : ¬ (((1 + 2 * (mergeR ms ps qs).length + (mergeT ms ps qs).length : Nat) : Int) < 0) := by omega
  have q3_1 : ((((1 + 2 * (mergeR ms ps qs).length + (mergeT ms ps qs).length : Nat) : Int)) != (((1 + 2 * (mergeR ms ps qs).length + (mergeT ms ps qs).length : Nat) : Int))) = false := by simp
  go_wp2_with fail
  go_ret
  exact ⟨rfl, C0_36.out⟩

set_option maxRecDepth 100000 in
theorem exactMerged_lifted (os : Os) (started : os.Started) (H : Type) (enc : TypeId × Value → H) :
    ReturnsInHanded {} Try.checked os 7 .any (Rows.fnExactMergedSpec.pre6 enc Try.prog Try.f7 Rows.fnExactMergedRow.domain false) (Rows.fnExactMergedSpec.post enc Try.prog Try.f7 false true false false) := by
  refine returnsInHanded_of_change (C := Try.checked) own started (by kernel_rfl) Try.func7
    (ChangeSpec.witness6 (enc := enc) (C := Try.checked) false ⟨#[], #[.slice none 0 0, .slice none 0 0, .slice none 0 0], []⟩ 8 (by kernel_rfl) (by kernel_rfl) (by kernel_rfl) (by kernel_rfl)) ?_
  intro W base args ds gs before hval hW _ _
  have hW' := hW
  obtain ⟨p, q, hA0, hV, rfl, hfz, hnd⟩ := hW
  have hA : DataW.TrodAll enc Try.prog W 0 (fun _ => true) true Try.f7.params.toList args.toList ds p := hA0
  rw [Try.params7] at hA hval
  obtain ⟨v0, vs0, d0, ds0, p0, q0, hargs, rfl, rfl, h0, r0⟩ := trodAll_cons hA
  obtain ⟨v1, vs1, d1, ds1, p1, q1, rfl, rfl, rfl, h1, r1⟩ := trodAll_cons r0
  obtain ⟨v2, vs2, d2, ds2, p2, q2, rfl, rfl, rfl, h2, r2⟩ := trodAll_cons r1
  obtain ⟨rfl, rfl, rfl⟩ := trodAll_nil r2
  obtain rfl : args = #[v0, v1, v2] := by cases args; simp_all
  clear hargs
  obtain ⟨A0, c0, ms, rfl, rr0, f0, n0⟩ := open_pairs (hval 0 29 v0 rfl rfl) h0
  obtain ⟨A1, c1, ps, rfl, rr1, f1, n1⟩ := open_pairs (hval 1 29 v1 rfl rfl) h1
  obtain ⟨A2, c2, qs, rfl, rr2, f2, n2⟩ := open_pairs (hval 2 29 v2 rfl rfl) h2
  refine (exactMerged_walk A0 c0 ms A1 c1 ps A2 c2 qs W rr0 f0 n0 rr1 f1 n1 rr2 f2 n2).mono fun e W' ⟨he, hw⟩ => ?_
  subst he
  exact ⟨_, rfl, law_post (tb := 4) laidOut (by kernel_rfl) rfl hW' Try.underlying4 (by kernel_rfl) (fun gs' e => by subst e; rfl) hw⟩

theorem exactMerged_holds : Rows.FnExactMergedSaid :=
  OpenClaim.holds_of_wide 7 Try.f7 rfl rfl rfl rfl rfl rfl rfl ⟨rfl, rfl, rfl, rfl, rfl⟩ rfl rfl rfl rfl rfl (by kernel_rfl) Try.func7 (by kernel_rfl)
    (of_decide_eq_true (by kernel_rfl)) (by unfold Func.isWrapper; rw [if_neg (of_decide_eq_false (by kernel_rfl))]; exact ⟨rfl, rfl⟩)
    (fun os started H enc _ => exactMerged_lifted os started H enc)
end Go.Proofs.Ytoipcjdpfbgghaa
