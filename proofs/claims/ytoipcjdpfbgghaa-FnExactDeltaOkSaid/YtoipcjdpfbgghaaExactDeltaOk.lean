/-
  FnExactDeltaOk answers true at every list of changes, and its argument reads as it did. No condition.
-/
import Derived.Test.YtoipcjdpfbgghaaMadeKit
import Derived.Test.YtoipcjdpfbgghaaChgMarks
import Derived.Test.YtoipcjdpfbgghaaDeltaOk
import Derived.Test.YtoipcjdpfbgghaaOpenChg
import Derived.Test.YtoipcjdpfbgghaaPost
import Derived.Test.YtoipcjdpfbgghaaOpen
namespace Go.Proofs.Ytoipcjdpfbgghaa
open Go.ChangeShapes Go.WideShapes Go.ChangeAt Go.RowKit


set_option maxHeartbeats 8000000 in
set_option maxRecDepth 100000 in
theorem exactDeltaOk_walk (A0 : Option Addr) (c0 : Nat) (ls : CS) (w : World) (hr0 : RC w w.heap.size A0 ls) (hf0 : FitsC ls) (hn0 : ls.length ≤ maxLen) :
    Calls Try.prog 3 #[.slice A0 ls.length c0] w fun e w' => e = .returned (.bool true) ∧ Below w.heap.size w w' := by
  have HR0 := hid hr0
  have HF0 := hid hf0
  have HN0 := hid hn0
  clear hr0 hf0 hn0
  go_enter Try.func3, Try.ntmps3
  go_wp2_with fail
  refine (szChangeS_any A0 c0 ls 1048576 _ HR0.out HF0.out HN0.out (by omega) (by omega)).mono ?_
  rintro e w1 ⟨r0, rfl, hl0, hu0, hz, hb⟩
  have C0_1 := hid (hb)
  have hs1 : w.heap.size ≤ w1.heap.size := hb.size
  have HZ0 := hid hz
  clear hz
  clear hb
  by_cases hneg0 : r0 < 0
  · go_wp2_with fail
    go_ret
    exact ⟨rfl, C0_1.out⟩
  have sm0 : ls.length ≤ 1048576 := by have := HZ0.out (by omega); omega
  go_wp2_with fail
  refine (toChangeS_any A0 c0 ls _ ((HR0.out.below C0_1.out).more C0_1.out.size) sm0).mono ?_
  rintro e w2 ⟨At0, ct0, rfl, ho, hb⟩
  have C0_2 := hid (C0_1.out.trans (hb.mono C0_1.out.size))
  have hs2 : w1.heap.size ≤ w2.heap.size := hb.size
  clear hb
  have Ot0 := hid ho
  have Zt0 := hid ho.size
  clear ho
  go_wp2_with fail
  refine (spec_DeltaOk At0 ct0 ls _ Ot0.out.rh HF0.out HN0.out).mono ?_
  rintro e w3 ⟨rfl, hb⟩
  have C0_3 := hid (C0_2.out.trans (hb.mono C0_2.out.size))
  have C2_3 := hid (hb)
  have hs3 : w2.heap.size ≤ w3.heap.size := hb.size
  clear hb
  go_wp2_with fail
  refine (toChangeS_any A0 c0 ls _ ((HR0.out.below C0_3.out).more C0_3.out.size) sm0).mono ?_
  rintro e w4 ⟨Ax0, cx0, rfl, ho, hb⟩
  have C0_4 := hid (C0_3.out.trans (hb.mono C0_3.out.size))
  have C2_4 := hid (C2_3.out.trans (hb.mono C2_3.out.size))
  have hs4 : w3.heap.size ≤ w4.heap.size := hb.size
  clear hb
  have Ox0 := hid ho
  have Zx0 := hid ho.size
  clear ho
  go_wp2_with fail
  refine (impl_DeltaOk Ax0 cx0 ls _ Ox0.out.rh HF0.out HN0.out).mono ?_
  rintro e w5 ⟨rfl, hb⟩
  have C0_5 := hid (C0_4.out.trans (hb.mono C0_4.out.size))
  have C2_5 := hid (C2_4.out.trans (hb.mono C2_4.out.size))
  have C4_5 := hid (hb)
  have hs5 : w4.heap.size ≤ w5.heap.size := hb.size
  clear hb
  have hbb : (deltaB ls != deltaB ls) = false := by simp
  go_wp2_with fail
  refine (toChangeS_any A0 c0 ls _ ((HR0.out.below C0_5.out).more C0_5.out.size) sm0).mono ?_
  rintro e w6 ⟨Ay0, cy0, rfl, ho, hb⟩
  have C0_6 := hid (C0_5.out.trans (hb.mono C0_5.out.size))
  have C2_6 := hid (C2_5.out.trans (hb.mono C2_5.out.size))
  have C4_6 := hid (C4_5.out.trans (hb.mono C4_5.out.size))
  have hs6 : w5.heap.size ≤ w6.heap.size := hb.size
  clear hb
  have Oy0 := hid ho
  have Zy0 := hid ho.size
  clear ho
  go_wp2_with fail
  refine (eqChangeS_same Ax0 Ay0 cx0 cy0 (ls) _ (Ox0.out.below C4_6.out).rh Oy0.out.rh HN0.out).mono ?_
  rintro e w7 ⟨rfl, hb⟩
  have C0_7 := hid (C0_6.out.trans (hb.mono C0_6.out.size))
  have C2_7 := hid (C2_6.out.trans (hb.mono C2_6.out.size))
  have C4_7 := hid (C4_6.out.trans (hb.mono C4_6.out.size))
  have C6_7 := hid (hb)
  have hs7 : w6.heap.size ≤ w7.heap.size := hb.size
  clear hb
  go_wp2_with fail
  go_ret
  exact ⟨rfl, C0_7.out⟩

set_option maxRecDepth 100000 in
theorem exactDeltaOk_lifted (os : Os) (started : os.Started) (H : Type) (enc : TypeId × Value → H) :
    ReturnsInHanded {} Try.checked os 3 .any (Rows.fnExactDeltaOkSpec.pre6 enc Try.prog Try.f3 Rows.fnExactDeltaOkRow.domain false) (Rows.fnExactDeltaOkSpec.post enc Try.prog Try.f3 false true false false) := by
  refine returnsInHanded_of_change (C := Try.checked) own started (by kernel_rfl) Try.func3
    (ChangeSpec.witness6 (enc := enc) (C := Try.checked) false ⟨#[], #[.slice none 0 0], []⟩ 8 (by kernel_rfl) (by kernel_rfl) (by kernel_rfl) (by kernel_rfl)) ?_
  intro W base args ds gs before hval hW _ _
  have hW' := hW
  obtain ⟨p, q, hA0, hV, rfl, hfz, hnd⟩ := hW
  have hA : DataW.TrodAll enc Try.prog W 0 (fun _ => true) true Try.f3.params.toList args.toList ds p := hA0
  rw [Try.params3] at hA hval
  obtain ⟨v0, vs0, d0, ds0, p0, q0, hargs, rfl, rfl, h0, r0⟩ := trodAll_cons hA
  obtain ⟨rfl, rfl, rfl⟩ := trodAll_nil r0
  obtain rfl : args = #[v0] := by cases args; simp_all
  clear hargs
  obtain ⟨A0, c0, ls, rfl, rr0, f0, n0⟩ := open_changes (hval 0 22 v0 rfl rfl) h0
  refine (exactDeltaOk_walk A0 c0 ls W rr0 f0 n0).mono fun e W' ⟨he, hw⟩ => ?_
  subst he
  exact ⟨_, rfl, law_post (tb := 4) laidOut (by kernel_rfl) rfl hW' Try.underlying4 (by kernel_rfl) (fun gs' e => by subst e; rfl) hw⟩

theorem exactDeltaOk_holds : Rows.FnExactDeltaOkSaid :=
  OpenClaim.holds_of_wide 3 Try.f3 rfl rfl rfl rfl rfl rfl rfl ⟨rfl, rfl, rfl, rfl, rfl⟩ rfl rfl rfl rfl rfl (by kernel_rfl) Try.func3 (by kernel_rfl)
    (of_decide_eq_true (by kernel_rfl)) (by unfold Func.isWrapper; rw [if_neg (of_decide_eq_false (by kernel_rfl))]; exact ⟨rfl, rfl⟩)
    (fun os started H enc _ => exactDeltaOk_lifted os started H enc)
end Go.Proofs.Ytoipcjdpfbgghaa
