/-
  FnExactFirstUnlike answers true at every two lists of nodes, and its arguments read as they did. No condition.
-/
import Derived.Test.YtaiehccpefjbfaaUnlike
import Derived.Test.YtaiehccpefjbfaaOpenNodes
namespace Go.Proofs.Ytaiehccpefjbfaa
open Go.ChangeShapes Go.WideShapes Go.ChangeAt Go.RowKit

set_option maxHeartbeats 4000000 in
set_option maxRecDepth 100000 in
theorem exactFirstUnlike_walk (A : Option Addr) (c : Nat) (ns : List ND) (K : Option Addr) (d : Nat) (ms : List ND) (w : World) (hr : RN w w.heap.size A ns) (hf : FitsN ns) (hn : ns.length ≤ maxLen) (hk : RN w w.heap.size K ms) (hg : FitsN ms) (hm : ms.length ≤ maxLen) :
    Calls Try.prog 9 #[.slice A ns.length c, .slice K ms.length d] w fun e w' => e = .returned (.bool true) ∧ Below w.heap.size w w' := by
  have HR := hid hr
  have HF := hid hf
  have HN := hid hn
  have HK := hid hk
  have HG := hid hg
  have HM := hid hm
  clear hr hf hn hk hg hm
  go_enter Try.func9, Try.ntmps9
  go_wp2_with fail
  refine (szNodeS_any A c ns 1048576 _ HR.out HF.out HN.out (by omega) (by omega)).mono ?_
  rintro e w1 ⟨r, rfl, hr1, hr2, hr3, hb1⟩
  have HZ := hid hr3
  clear hr3
  by_cases hneg : r < 0
  · go_wp2_with fail
    go_ret
    exact ⟨rfl, hb1⟩
  have hns : ns.length ≤ 1048576 := by have := (HZ.out (by omega)).1; omega
  have HSM := hid (HZ.out (by omega)).2
  go_wp2_with fail
  refine (szNodeS_any K d ms r _ ((HK.out.below hb1).more hb1.size) HG.out HM.out (by omega) (by omega)).mono ?_
  rintro e w2 ⟨r2, rfl, hq1, hq2, hq3, hw2⟩
  have hb2 := hb1.trans (hw2.mono hb1.size)
  have HY := hid hq3
  clear hq3 HZ
  by_cases hneg2 : r2 < 0
  · go_wp2_with fail
    go_ret
    exact ⟨rfl, hb2⟩
  have hms : ms.length ≤ 1048576 := by have := (HY.out (by omega)).1; omega
  have HSK := hid (HY.out (by omega)).2
  go_wp2_with fail
  refine (toNodeS_any A c ns _ ((HR.out.below hb2).more hb2.size) hns HSM.out).mono ?_
  rintro e w3 ⟨A3, c3, rfl, ho3, hw3⟩
  have hb3 := hb2.trans (hw3.mono hb2.size)
  have HO3 := hid ho3
  clear ho3
  go_wp2_with fail
  refine (toNodeS_any K d ms _ ((HK.out.below hb3).more hb3.size) hms HSK.out).mono ?_
  rintro e w4 ⟨A4, c4, rfl, ho4, hw4⟩
  have hb4 := hb3.trans (hw4.mono hb3.size)
  have HO4 := hid ho4
  clear ho4
  have HO3b := hid (HO3.out.below hw4)
  go_wp2_with fail
  refine (spec_FirstUnlike A3 c3 ns A4 c4 ms _ HO3b.out.rn HF.out HSM.out hns HO4.out.rn HG.out HSK.out hms).mono ?_
  rintro e w5 ⟨rfl, hw5⟩
  have hb5 := hb4.trans (hw5.mono hb4.size)
  obtain ⟨s, f, HU⟩ : ∃ (s : ByteArray) (f : Bool), Hid (saidU (unlike ns ms) = .tuple #[.string s, .bool f]) := ⟨_, _, rfl⟩
  rw [HU.out]
  go_wp2_with fail
  refine (toNodeS_any A c ns _ ((HR.out.below hb5).more hb5.size) hns HSM.out).mono ?_
  rintro e w6 ⟨A6, c6, rfl, ho6, hw6⟩
  have hb6 := hb5.trans (hw6.mono hb5.size)
  have HO6 := hid ho6
  clear ho6
  go_wp2_with fail
  refine (toNodeS_any K d ms _ ((HK.out.below hb6).more hb6.size) hms HSK.out).mono ?_
  rintro e w7 ⟨A7, c7, rfl, ho7, hw7⟩
  have hb7 := hb6.trans (hw7.mono hb6.size)
  have HO7 := hid ho7
  clear ho7
  have HO6b := hid (HO6.out.below hw7)
  go_wp2_with fail
  refine (impl_FirstUnlike A6 c6 ns A7 c7 ms _ HO6b.out.rn HF.out HSM.out hns HO7.out.rn HG.out HSK.out hms).mono ?_
  rintro e w8 ⟨rfl, hw8⟩
  have hb8 := hb7.trans (hw8.mono hb7.size)
  have HO6c := hid (HO6b.out.below hw8)
  have HO7c := hid (HO7.out.below hw8)
  rw [HU.out]
  have hbb : (f != f) = false := by simp
  have hvv : (s.toList == s.toList) = true := by simp
  go_wp2_with fail
  refine (toNodeS_any A c ns _ ((HR.out.below hb8).more hb8.size) hns HSM.out).mono ?_
  rintro e w9 ⟨A9, c9, rfl, ho9, hw9⟩
  have hb9 := hb8.trans (hw9.mono hb8.size)
  have HO9 := hid ho9
  clear ho9
  go_wp2_with fail
  refine (eqNodeS_any A6 A9 c6 c9 ns _ (HO6c.out.below hw9).rn HO9.out.rn HF.out HN.out).mono ?_
  rintro e w10 ⟨rfl, hw10⟩
  have hb10 := hb9.trans (hw10.mono hb9.size)
  have HO7d := hid ((HO7c.out.below hw9).below hw10)
  go_wp2_with fail
  refine (toNodeS_any K d ms _ ((HK.out.below hb10).more hb10.size) hms HSK.out).mono ?_
  rintro e w11 ⟨A11, c11, rfl, ho11, hw11⟩
  have hb11 := hb10.trans (hw11.mono hb10.size)
  have HO11 := hid ho11
  clear ho11
  go_wp2_with fail
  refine (eqNodeS_any A7 A11 c7 c11 ms _ (HO7d.out.below hw11).rn HO11.out.rn HG.out HM.out).mono ?_
  rintro e w12 ⟨rfl, hw12⟩
  have hb12 := hb11.trans (hw12.mono hb11.size)
  go_wp2_with fail
  go_ret
  exact ⟨rfl, hb12⟩

set_option maxRecDepth 100000 in
theorem exactFirstUnlike_lifted (os : Os) (started : os.Started) (H : Type) (enc : TypeId × Value → H) :
    ReturnsInHanded {} Try.checked os 9 .any (Rows.fnExactFirstUnlikeSpec.pre6 enc Try.prog Try.f9 Rows.fnExactFirstUnlikeRow.domain false) (Rows.fnExactFirstUnlikeSpec.post enc Try.prog Try.f9 false true false false) := by
  refine returnsInHanded_of_change (C := Try.checked) own started (by kernel_rfl) Try.func9
    (ChangeSpec.witness6 (enc := enc) (C := Try.checked) false ⟨#[], #[.slice none 0 0, .slice none 0 0], []⟩ 8 (by kernel_rfl) (by kernel_rfl) (by kernel_rfl) (by kernel_rfl)) ?_
  intro W base args ds gs before hval hW _ _
  have hW' := hW
  obtain ⟨p, q, hA0, hV, rfl, hfz, hnd⟩ := hW
  have hA : DataW.TrodAll enc Try.prog W 0 (fun _ => true) true Try.f9.params.toList args.toList ds p := hA0
  rw [Try.params9] at hA hval
  obtain ⟨v0, vs0, d0, ds0, p0, q0, hargs, rfl, rfl, h0, r0⟩ := trodAll_cons hA
  obtain ⟨v1, vs1, d1, ds1, p1, q1, rfl, rfl, rfl, h1, r1⟩ := trodAll_cons r0
  obtain ⟨rfl, rfl, rfl⟩ := trodAll_nil r1
  obtain rfl : args = #[v0, v1] := by cases args; simp_all
  clear hargs
  obtain ⟨A0, c0, ns, rfl, rr0, f0, n0⟩ := open_nodes (hval 0 73 v0 rfl rfl) h0
  obtain ⟨A1, c1, ms, rfl, rr1, f1, n1⟩ := open_nodes (hval 1 73 v1 rfl rfl) h1
  refine (exactFirstUnlike_walk A0 c0 ns A1 c1 ms W rr0 f0 n0 rr1 f1 n1).mono fun e W' ⟨he, hw⟩ => ?_
  subst he
  exact ⟨_, rfl, law_post (tb := 4) laidOut (by kernel_rfl) rfl hW' Try.underlying4 (by kernel_rfl) (fun gs' e => by subst e; rfl) hw⟩

theorem exactFirstUnlike_holds : Rows.FnExactFirstUnlikeSaid :=
  OpenClaim.holds_of_wide 9 Try.f9 rfl rfl rfl rfl rfl rfl rfl ⟨rfl, rfl, rfl, rfl, rfl⟩ rfl rfl rfl rfl rfl (by kernel_rfl) Try.func9 (by kernel_rfl)
    (of_decide_eq_true (by kernel_rfl)) (by unfold Func.isWrapper; rw [if_neg (of_decide_eq_false (by kernel_rfl))]; exact ⟨rfl, rfl⟩)
    (fun os started H enc _ => exactFirstUnlike_lifted os started H enc)
end Go.Proofs.Ytaiehccpefjbfaa
