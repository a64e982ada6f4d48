/-
  FnExactDeltaOf answers true at every two lists of pairs, and its arguments read as they did. No condition.
-/
import Derived.Test.YtoipcjdpfbgghaaMadeKit
import Derived.Test.YtoipcjdpfbgghaaChgMarks
import Derived.Test.YtoipcjdpfbgghaaDeltaOk
import Derived.Test.YtoipcjdpfbgghaaOpenChg
import Derived.Test.YtoipcjdpfbgghaaPost
import Derived.Test.YtoipcjdpfbgghaaOpen
import Derived.Test.YtoipcjdpfbgghaaDeltaK
namespace Go.Proofs.Ytoipcjdpfbgghaa
open Go.ChangeShapes Go.WideShapes Go.ChangeAt Go.RowKit

theorem exactDeltaOf_len0 {ps : PS} {qs : PS} (_h0 : ps.length ≤ 1048576) (_h1 : qs.length ≤ 1048576) : Hid ((deltaOfL ps qs).length ≤ 1100000) := by
  unfold deltaOfL
  split
  · rename_i h
    simp only [deltaOfB, Bool.and_eq_true, decide_eq_true_eq] at h
    unfold Hid
    omega
  · simp [Hid]

set_option maxHeartbeats 8000000 in
set_option maxRecDepth 100000 in
theorem exactDeltaOf_walk (A0 : Option Addr) (c0 : Nat) (ps : PS) (A1 : Option Addr) (c1 : Nat) (qs : PS) (w : World) (hr0 : RP w w.heap.size A0 ps) (hf0 : Fits ps) (hn0 : ps.length ≤ maxLen) (hr1 : RP w w.heap.size A1 qs) (hf1 : Fits qs) (hn1 : qs.length ≤ maxLen) :
    Calls Try.prog 4 #[.slice A0 ps.length c0, .slice A1 qs.length c1] w fun e w' => e = .returned (.bool true) ∧ Below w.heap.size w w' := by
  have HR0 := hid hr0
  have HF0 := hid hf0
  have HN0 := hid hn0
  have HR1 := hid hr1
  have HF1 := hid hf1
  have HN1 := hid hn1
  clear hr0 hf0 hn0 hr1 hf1 hn1
  go_enter Try.func4, Try.ntmps4
  go_wp2_with fail
  refine (szPairS_any A0 c0 ps 1048576 _ HR0.out HF0.out HN0.out (by omega) (by omega)).mono ?_
  rintro e w1 ⟨r0, rfl, hl0, hu0, hz, hb⟩
  have C0_1 := hid (hb)
  have hs1 : w.heap.size ≤ w1.heap.size := hb.size
  have HZ0 := hid hz
  clear hz
  clear hb
  by_cases hneg0 : r0 < 0
  · go_wp2_with fail
    go_ret
    exact ⟨rfl, C0_1.out⟩
  have sm0 : ps.length ≤ 1048576 := by have := (HZ0.out (by omega)).1; omega
  go_wp2_with fail
  refine (szPairS_any A1 c1 qs r0 _ ((HR1.out.below C0_1.out).more C0_1.out.size) HF1.out HN1.out (by omega) (by omega)).mono ?_
  rintro e w2 ⟨r1, rfl, hl1, hu1, hz, hb⟩
  have C0_2 := hid (C0_1.out.trans (hb.mono C0_1.out.size))
  have hs2 : w1.heap.size ≤ w2.heap.size := hb.size
  have HZ1 := hid hz
  clear hz
  clear hb
  by_cases hneg1 : r1 < 0
  · go_wp2_with fail
    go_ret
    exact ⟨rfl, C0_2.out⟩
  have sm1 : qs.length ≤ 1048576 := by have := (HZ1.out (by omega)).1; omega
  go_wp2_with fail
  refine (toPairS_any A0 c0 ps _ ((HR0.out.below C0_2.out).more C0_2.out.size) sm0).mono ?_
  rintro e w3 ⟨At0, ct0, rfl, ho, hb⟩
  have C0_3 := hid (C0_2.out.trans (hb.mono C0_2.out.size))
  have hs3 : w2.heap.size ≤ w3.heap.size := hb.size
  clear hb
  have Ot0 := hid ho
  have Zt0 := hid ho.size
  clear ho
  go_wp2_with fail
  refine (toPairS_any A1 c1 qs _ ((HR1.out.below C0_3.out).more C0_3.out.size) sm1).mono ?_
  rintro e w4 ⟨At1, ct1, rfl, ho, hb⟩
  have C0_4 := hid (C0_3.out.trans (hb.mono C0_3.out.size))
  have C3_4 := hid (hb)
  have hs4 : w3.heap.size ≤ w4.heap.size := hb.size
  clear hb
  have Ot1 := hid ho
  have Zt1 := hid ho.size
  clear ho
  go_wp2_with fail
  refine (spec_DeltaOf At0 ct0 ps At1 ct1 qs _ (Ot0.out.below C3_4.out).rp HF0.out HN0.out Ot1.out.rp HF1.out HN1.out).mono ?_
  rintro e w5 ⟨Av0, cv0, rfl, hov0, hb⟩
  have C0_5 := hid (C0_4.out.trans (hb.mono C0_4.out.size))
  have C3_5 := hid (C3_4.out.trans (hb.mono C3_4.out.size))
  have C4_5 := hid (hb)
  have hs5 : w4.heap.size ≤ w5.heap.size := hb.size
  clear hb
  have Ov0 := hid hov0
  have Zv0 := hid hov0.size
  clear hov0
  go_wp2_with fail
  refine (toPairS_any A0 c0 ps _ ((HR0.out.below C0_5.out).more C0_5.out.size) sm0).mono ?_
  rintro e w6 ⟨Ax0, cx0, rfl, ho, hb⟩
  have C0_6 := hid (C0_5.out.trans (hb.mono C0_5.out.size))
  have C3_6 := hid (C3_5.out.trans (hb.mono C3_5.out.size))
  have C4_6 := hid (C4_5.out.trans (hb.mono C4_5.out.size))
  have C5_6 := hid (hb)
  have hs6 : w5.heap.size ≤ w6.heap.size := hb.size
  clear hb
  have Ox0 := hid ho
  have Zx0 := hid ho.size
  clear ho
  go_wp2_with fail
  refine (toPairS_any A1 c1 qs _ ((HR1.out.below C0_6.out).more C0_6.out.size) sm1).mono ?_
  rintro e w7 ⟨Ax1, cx1, rfl, ho, hb⟩
  have C0_7 := hid (C0_6.out.trans (hb.mono C0_6.out.size))
  have C3_7 := hid (C3_6.out.trans (hb.mono C3_6.out.size))
  have C4_7 := hid (C4_6.out.trans (hb.mono C4_6.out.size))
  have C5_7 := hid (C5_6.out.trans (hb.mono C5_6.out.size))
  have C6_7 := hid (hb)
  have hs7 : w6.heap.size ≤ w7.heap.size := hb.size
  clear hb
  have Ox1 := hid ho
  have Zx1 := hid ho.size
  clear ho
  have HL0 : Hid ((deltaOfL ps qs).length ≤ 1100000) := exactDeltaOf_len0 sm0 sm1
  go_wp2_with fail
  refine (impl_DeltaOf Ax0 cx0 ps Ax1 cx1 qs _ (Ox0.out.below C6_7.out).rp HF0.out HN0.out Ox1.out.rp HF1.out HN1.out).mono ?_
  rintro e w8 ⟨Ag0, cg0, rfl, hog0, hb⟩
  have C0_8 := hid (C0_7.out.trans (hb.mono C0_7.out.size))
  have C3_8 := hid (C3_7.out.trans (hb.mono C3_7.out.size))
  have C4_8 := hid (C4_7.out.trans (hb.mono C4_7.out.size))
  have C5_8 := hid (C5_7.out.trans (hb.mono C5_7.out.size))
  have C6_8 := hid (C6_7.out.trans (hb.mono C6_7.out.size))
  have C7_8 := hid (hb)
  have hs8 : w7.heap.size ≤ w8.heap.size := hb.size
  clear hb
  have Og0 := hid hog0
  have Zg0 := hid hog0.size
  clear hog0
  have hbb : (deltaOfB ps qs != deltaOfB ps qs) = false := by simp
  go_wp2_with fail
  refine (eqChangeS_same Ag0 Av0 cg0 cv0 (deltaOfL ps qs) _ Og0.out.rh (Ov0.out.below C5_8.out).rh (by have := HL0.out; unfold maxLen; omega)).mono ?_
  rintro e w9 ⟨rfl, hb⟩
  have C0_9 := hid (C0_8.out.trans (hb.mono C0_8.out.size))
  have C3_9 := hid (C3_8.out.trans (hb.mono C3_8.out.size))
  have C4_9 := hid (C4_8.out.trans (hb.mono C4_8.out.size))
  have C5_9 := hid (C5_8.out.trans (hb.mono C5_8.out.size))
  have C6_9 := hid (C6_8.out.trans (hb.mono C6_8.out.size))
  have C7_9 := hid (C7_8.out.trans (hb.mono C7_8.out.size))
  have C8_9 := hid (hb)
  have hs9 : w8.heap.size ≤ w9.heap.size := hb.size
  clear hb
  go_wp2_with fail
  refine (toPairS_any A0 c0 ps _ ((HR0.out.below C0_9.out).more C0_9.out.size) sm0).mono ?_
  rintro e w10 ⟨Ay0, cy0, rfl, ho, hb⟩
  have C0_10 := hid (C0_9.out.trans (hb.mono C0_9.out.size))
  have C3_10 := hid (C3_9.out.trans (hb.mono C3_9.out.size))
  have C4_10 := hid (C4_9.out.trans (hb.mono C4_9.out.size))
  have C5_10 := hid (C5_9.out.trans (hb.mono C5_9.out.size))
  have C6_10 := hid (C6_9.out.trans (hb.mono C6_9.out.size))
  have C7_10 := hid (C7_9.out.trans (hb.mono C7_9.out.size))
  have C8_10 := hid (C8_9.out.trans (hb.mono C8_9.out.size))
  have hs10 : w9.heap.size ≤ w10.heap.size := hb.size
  clear hb
  have Oy0 := hid ho
  have Zy0 := hid ho.size
  clear ho
  have ht : decide (ps = ps) = true := by simp
  go_wp2_with fail
  refine (eqPairS_any Ax0 Ay0 cx0 cy0 (ps) (ps) _ (Ox0.out.below C6_10.out).rp Oy0.out.rp HN0.out).mono ?_
  rintro e w11 ⟨rfl, hb⟩
  have C0_11 := hid (C0_10.out.trans (hb.mono C0_10.out.size))
  have C3_11 := hid (C3_10.out.trans (hb.mono C3_10.out.size))
  have C4_11 := hid (C4_10.out.trans (hb.mono C4_10.out.size))
  have C5_11 := hid (C5_10.out.trans (hb.mono C5_10.out.size))
  have C6_11 := hid (C6_10.out.trans (hb.mono C6_10.out.size))
  have C7_11 := hid (C7_10.out.trans (hb.mono C7_10.out.size))
  have C8_11 := hid (C8_10.out.trans (hb.mono C8_10.out.size))
  have C10_11 := hid (hb)
  have hs11 : w10.heap.size ≤ w11.heap.size := hb.size
  clear hb
  clear ht
  go_wp2_with fail
  refine (toPairS_any A1 c1 qs _ ((HR1.out.below C0_11.out).more C0_11.out.size) sm1).mono ?_
  rintro e w12 ⟨Ay1, cy1, rfl, ho, hb⟩
  have C0_12 := hid (C0_11.out.trans (hb.mono C0_11.out.size))
  have C3_12 := hid (C3_11.out.trans (hb.mono C3_11.out.size))
  have C4_12 := hid (C4_11.out.trans (hb.mono C4_11.out.size))
  have C5_12 := hid (C5_11.out.trans (hb.mono C5_11.out.size))
  have C6_12 := hid (C6_11.out.trans (hb.mono C6_11.out.size))
  have C7_12 := hid (C7_11.out.trans (hb.mono C7_11.out.size))
  have C8_12 := hid (C8_11.out.trans (hb.mono C8_11.out.size))
  have C10_12 := hid (C10_11.out.trans (hb.mono C10_11.out.size))
  have hs12 : w11.heap.size ≤ w12.heap.size := hb.size
  clear hb
  have Oy1 := hid ho
  have Zy1 := hid ho.size
  clear ho
  have ht : decide (qs = qs) = true := by simp
  go_wp2_with fail
  refine (eqPairS_any Ax1 Ay1 cx1 cy1 (qs) (qs) _ (Ox1.out.below C7_12.out).rp Oy1.out.rp HN1.out).mono ?_
  rintro e w13 ⟨rfl, hb⟩
  have C0_13 := hid (C0_12.out.trans (hb.mono C0_12.out.size))
  have C3_13 := hid (C3_12.out.trans (hb.mono C3_12.out.size))
  have C4_13 := hid (C4_12.out.trans (hb.mono C4_12.out.size))
  have C5_13 := hid (C5_12.out.trans (hb.mono C5_12.out.size))
  have C6_13 := hid (C6_12.out.trans (hb.mono C6_12.out.size))
  have C7_13 := hid (C7_12.out.trans (hb.mono C7_12.out.size))
  have C8_13 := hid (C8_12.out.trans (hb.mono C8_12.out.size))
  have C10_13 := hid (C10_12.out.trans (hb.mono C10_12.out.size))
  have C12_13 := hid (hb)
  have hs13 : w12.heap.size ≤ w13.heap.size := hb.size
  clear hb
  clear ht
  go_wp2_with fail
  refine (markPairS_any w5.heap.size Ax0 cx0 (ps) (1) _ (Ox0.out.below C6_13.out) (by omega) (by omega)).mono ?_
  rintro e w14 ⟨rfl, hm, hg⟩
  have hs14 : w13.heap.size ≤ w14.heap.size := hg.size
  have N1 := hid ((Ov0.out.below C5_13.out).keepG hg (fun q hq e => by have := Zv0.out q hq; have := Zx0.out q e.symm; omega))
  have N2 := hid ((Ox1.out.below C7_13.out).keepG hg (fun q hq e => by have := Zx1.out q hq; have := Zx0.out q e.symm; omega))
  have N3 := hid ((Og0.out.below C8_13.out).keepG hg (fun q hq e => by have := Zg0.out q hq; have := Zx0.out q e.symm; omega))
  have C0_14 := hid (C0_13.out.grown hg C0_13.out.size (fun q hq => by have := (Zx0.out q hq).1; omega))
  clear hg
  clear hm
  go_wp2_with fail
  refine (markPairS_any w6.heap.size Ax1 cx1 (qs) (1 + 2 * ps.length) _ N2.out (by omega) (by omega)).mono ?_
  rintro e w15 ⟨rfl, hm, hg⟩
  have hs15 : w14.heap.size ≤ w15.heap.size := hg.size
  have N4 := hid (N1.out.keepG hg (fun q hq e => by have := Zv0.out q hq; have := Zx1.out q e.symm; omega))
  have N5 := hid (N3.out.keepG hg (fun q hq e => by have := Zg0.out q hq; have := Zx1.out q e.symm; omega))
  have C0_15 := hid (C0_14.out.grown hg C0_14.out.size (fun q hq => by have := (Zx1.out q hq).1; omega))
  clear hg
  clear hm
  have q1 : ¬ (((1 + 2 * ps.length + 2 * qs.length : Nat) : Int) < 0) := by omega
  go_wp2_with fail
  refine (eqChangeS_same Ag0 Av0 cg0 cv0 (deltaOfL ps qs) _ N5.out.rh N4.out.rh (by have := HL0.out; unfold maxLen; omega)).mono ?_
  rintro e w16 ⟨rfl, hb⟩
  have C0_16 := hid (C0_15.out.trans (hb.mono C0_15.out.size))
  have C15_16 := hid (hb)
  have hs16 : w15.heap.size ≤ w16.heap.size := hb.size
  clear hb
  go_wp2_with fail
  refine (markChangeS_any w7.heap.size Ag0 cg0 (deltaOfL ps qs) (1) _ (N5.out.below C15_16.out) (by have := HL0.out; omega) (by omega)).mono ?_
  rintro e w17 ⟨rfl, hm, hg⟩
  have hs17 : w16.heap.size ≤ w17.heap.size := hg.size
  have N6 := hid ((N4.out.below C15_16.out).keepG hg (fun q hq e => by have := Zv0.out q hq; have := Zg0.out q e.symm; omega))
  have C0_17 := hid (C0_16.out.grown hg C0_16.out.size (fun q hq => by have := (Zg0.out q hq).1; omega))
  clear hg
  have OM0 := hid hm
  clear hm
  have ZM0 := hid OM0.out.size
  go_wp2_with fail
  refine (heldChangeS_any Ag0 cg0 (deltaOfL ps qs).length (1) _ OM0.out.rh (by have := HL0.out; omega) (by omega)).mono ?_
  rintro e w18 ⟨rfl, hb⟩
  have C0_18 := hid (C0_17.out.trans (hb.mono C0_17.out.size))
  have C17_18 := hid (hb)
  have hs18 : w17.heap.size ≤ w18.heap.size := hb.size
  clear hb
  have q2_0 : ¬ (((1 + 3 * (deltaOfL ps qs).length : Nat) : Int) < 0) := by omega
  have q3_0 : ((((1 + 3 * (deltaOfL ps qs).length : Nat) : Int)) != (((1 + 3 * (deltaOfL ps qs).length : Nat) : Int))) = false := by simp
  go_wp2_with fail
  refine (toPairS_any A0 c0 ps _ ((HR0.out.below C0_18.out).more C0_18.out.size) sm0).mono ?_
  rintro e w19 ⟨Au0, cu0, rfl, ho, hb⟩
  have C0_19 := hid (C0_18.out.trans (hb.mono C0_18.out.size))
  have C17_19 := hid (C17_18.out.trans (hb.mono C17_18.out.size))
  have hs19 : w18.heap.size ≤ w19.heap.size := hb.size
  clear hb
  have Ou0 := hid ho
  have Zu0 := hid ho.size
  clear ho
  go_wp2_with fail
  refine (toPairS_any A1 c1 qs _ ((HR1.out.below C0_19.out).more C0_19.out.size) sm1).mono ?_
  rintro e w20 ⟨Au1, cu1, rfl, ho, hb⟩
  have C0_20 := hid (C0_19.out.trans (hb.mono C0_19.out.size))
  have C17_20 := hid (C17_19.out.trans (hb.mono C17_19.out.size))
  have C19_20 := hid (hb)
  have hs20 : w19.heap.size ≤ w20.heap.size := hb.size
  clear hb
  have Ou1 := hid ho
  have Zu1 := hid ho.size
  clear ho
  go_wp2_with fail
  refine (impl_DeltaOf Au0 cu0 ps Au1 cu1 qs _ (Ou0.out.below C19_20.out).rp HF0.out HN0.out Ou1.out.rp HF1.out HN1.out).mono ?_
  rintro e w21 ⟨Ah0, ch0, rfl, hoh0, hb⟩
  have C0_21 := hid (C0_20.out.trans (hb.mono C0_20.out.size))
  have C17_21 := hid (C17_20.out.trans (hb.mono C17_20.out.size))
  have C19_21 := hid (C19_20.out.trans (hb.mono C19_20.out.size))
  have C20_21 := hid (hb)
  have hs21 : w20.heap.size ≤ w21.heap.size := hb.size
  clear hb
  have Oh0 := hid hoh0
  have Zh0 := hid hoh0.size
  clear hoh0
  go_wp2_with fail
  refine (eqChangeS_same Ah0 Av0 ch0 cv0 (deltaOfL ps qs) _ Oh0.out.rh (N6.out.below C17_21.out).rh (by have := HL0.out; unfold maxLen; omega)).mono ?_
  rintro e w22 ⟨rfl, hb⟩
  have C0_22 := hid (C0_21.out.trans (hb.mono C0_21.out.size))
  have C17_22 := hid (C17_21.out.trans (hb.mono C17_21.out.size))
  have C19_22 := hid (C19_21.out.trans (hb.mono C19_21.out.size))
  have C20_22 := hid (C20_21.out.trans (hb.mono C20_21.out.size))
  have C21_22 := hid (hb)
  have hs22 : w21.heap.size ≤ w22.heap.size := hb.size
  clear hb
  go_wp2_with fail
  refine (heldChangeS_any Ag0 cg0 (deltaOfL ps qs).length (1) _ (OM0.out.below C17_22.out).rh (by have := HL0.out; omega) (by omega)).mono ?_
  rintro e w23 ⟨rfl, hb⟩
  have C0_23 := hid (C0_22.out.trans (hb.mono C0_22.out.size))
  have C17_23 := hid (C17_22.out.trans (hb.mono C17_22.out.size))
  have C19_23 := hid (C19_22.out.trans (hb.mono C19_22.out.size))
  have C20_23 := hid (C20_22.out.trans (hb.mono C20_22.out.size))
  have C21_23 := hid (C21_22.out.trans (hb.mono C21_22.out.size))
  have hs23 : w22.heap.size ≤ w23.heap.size := hb.size
  clear hb
  have q2_0 : ¬ (((1 + 3 * (deltaOfL ps qs).length : Nat) : Int) < 0) := by omega
  have q3_0 : ((((1 + 3 * (deltaOfL ps qs).length : Nat) : Int)) != (((1 + 3 * (deltaOfL ps qs).length : Nat) : Int))) = false := by simp
  go_wp2_with fail
  go_ret
  exact ⟨rfl, C0_23.out⟩

set_option maxRecDepth 100000 in
theorem exactDeltaOf_lifted (os : Os) (started : os.Started) (H : Type) (enc : TypeId × Value → H) :
    ReturnsInHanded {} Try.checked os 4 .any (Rows.fnExactDeltaOfSpec.pre6 enc Try.prog Try.f4 Rows.fnExactDeltaOfRow.domain false) (Rows.fnExactDeltaOfSpec.post enc Try.prog Try.f4 false true false false) := by
  refine returnsInHanded_of_change (C := Try.checked) own started (by kernel_rfl) Try.func4
    (ChangeSpec.witness6 (enc := enc) (C := Try.checked) false ⟨#[], #[.slice none 0 0, .slice none 0 0], []⟩ 8 (by kernel_rfl) (by kernel_rfl) (by kernel_rfl) (by kernel_rfl)) ?_
  intro W base args ds gs before hval hW _ _
  have hW' := hW
  obtain ⟨p, q, hA0, hV, rfl, hfz, hnd⟩ := hW
  have hA : DataW.TrodAll enc Try.prog W 0 (fun _ => true) true Try.f4.params.toList args.toList ds p := hA0
  rw [Try.params4] at hA hval
  obtain ⟨v0, vs0, d0, ds0, p0, q0, hargs, rfl, rfl, h0, r0⟩ := trodAll_cons hA
  obtain ⟨v1, vs1, d1, ds1, p1, q1, rfl, rfl, rfl, h1, r1⟩ := trodAll_cons r0
  obtain ⟨rfl, rfl, rfl⟩ := trodAll_nil r1
  obtain rfl : args = #[v0, v1] := by cases args; simp_all
  clear hargs
  obtain ⟨A0, c0, ps, rfl, rr0, f0, n0⟩ := open_pairs (hval 0 29 v0 rfl rfl) h0
  obtain ⟨A1, c1, qs, rfl, rr1, f1, n1⟩ := open_pairs (hval 1 29 v1 rfl rfl) h1
  refine (exactDeltaOf_walk A0 c0 ps A1 c1 qs W rr0 f0 n0 rr1 f1 n1).mono fun e W' ⟨he, hw⟩ => ?_
  subst he
  exact ⟨_, rfl, law_post (tb := 4) laidOut (by kernel_rfl) rfl hW' Try.underlying4 (by kernel_rfl) (fun gs' e => by subst e; rfl) hw⟩

theorem exactDeltaOf_holds : Rows.FnExactDeltaOfSaid :=
  OpenClaim.holds_of_wide 4 Try.f4 rfl rfl rfl rfl rfl rfl rfl ⟨rfl, rfl, rfl, rfl, rfl⟩ rfl rfl rfl rfl rfl (by kernel_rfl) Try.func4 (by kernel_rfl)
    (of_decide_eq_true (by kernel_rfl)) (by unfold Func.isWrapper; rw [if_neg (of_decide_eq_false (by kernel_rfl))]; exact ⟨rfl, rfl⟩)
    (fun os started H enc _ => exactDeltaOf_lifted os started H enc)
end Go.Proofs.Ytoipcjdpfbgghaa
