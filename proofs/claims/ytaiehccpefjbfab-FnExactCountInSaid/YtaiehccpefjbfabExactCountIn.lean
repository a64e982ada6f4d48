/-
  FnExactCountIn answers true at every argument, and its arguments read as they did. No condition.
-/
import Derived.Test.YtaiehccpefjbfabScan
import Derived.Test.YtaiehccpefjbfabOpenNodes
namespace Go.Proofs.Ytaiehccpefjbfab
open Go.ChangeShapes Go.WideShapes Go.ChangeAt Go.RowKit

set_option maxHeartbeats 2000000 in
set_option maxRecDepth 100000 in
theorem exactCountIn_walk (A : Option Addr) (c : Nat) (ns : List ND) (lo : ByteArray) (hi : ByteArray) (w : World) (hr : RN w w.heap.size A ns) (hf : FitsN ns) (hn : ns.length ≤ maxLen) (s_lo : lo.size ≤ maxLen) (s_hi : hi.size ≤ maxLen) :
    Calls Try.prog 10 #[.slice A ns.length c, .string lo, .string hi] w fun e w' => e = .returned (.bool true) ∧ Below w.heap.size w w' := by
  have HR := hid hr
  have HF := hid hf
  have HN := hid hn
  clear hr hf hn
  unfold maxLen at s_lo s_hi
  go_enter Try.func10, Try.ntmps10
  by_cases big_lo : 1048576 < lo.size
  · go_wp2_with fail
    go_ret
    exact ⟨rfl, Below.refl _ _⟩
  have sm_lo : lo.size ≤ maxLen := by unfold maxLen; omega
  by_cases big_hi : 1048576 < hi.size
  · go_wp2_with fail
    go_ret
    exact ⟨rfl, Below.refl _ _⟩
  have sm_hi : hi.size ≤ maxLen := by unfold maxLen; omega
  go_wp2_with fail
  refine (szNodeS_any A c ns 1048576 _ HR.out HF.out HN.out (by omega) (by omega)).mono ?_
  rintro e w1 ⟨r, rfl, hr1, hr2, hr3, hb1⟩
  have HZ := hid hr3
  clear hr3
  by_cases hneg : r < 0
  · go_wp2_with fail
    go_ret
    exact ⟨rfl, hb1⟩
  have hns : ns.length ≤ 1048576 := by have := (HZ.out (by omega)).1; omega
  have HSM := hid (HZ.out (by omega)).2
  go_wp2_with fail
  refine (toNodeS_any A c ns _ ((HR.out.below hb1).more hb1.size) hns HSM.out).mono ?_
  rintro e w2 ⟨A2, c2, rfl, ho2, hw2⟩
  have hb2 := hb1.trans (hw2.mono hb1.size)
  have HO2 := hid ho2
  clear ho2
  go_wp2_with fail
  refine (spec_CountIn A2 c2 ns lo hi _ HO2.out.rn HF.out HSM.out hns).mono ?_
  rintro e w3 ⟨rfl, hw3⟩
  have hb3 := hb2.trans (hw3.mono hb2.size)
  go_wp2_with fail
  refine (toNodeS_any A c ns _ ((HR.out.below hb3).more hb3.size) hns HSM.out).mono ?_
  rintro e w4 ⟨A4, c4, rfl, ho4, hw4⟩
  have hb4 := hb3.trans (hw4.mono hb3.size)
  have HO4 := hid ho4
  clear ho4
  go_wp2_with fail
  refine (impl_CountIn A4 c4 ns lo hi _ HO4.out.rn HF.out HSM.out hns).mono ?_
  rintro e w5 ⟨rfl, hw5⟩
  have hb5 := hb4.trans (hw5.mono hb4.size)
  have HO5 := hid (HO4.out.below hw5)
  have hbb : (((rangeL (pairsOf ns) lo hi).length : Int) != ((rangeL (pairsOf ns) lo hi).length : Int)) = false := by simp
  go_wp2_with fail
  refine (toNodeS_any A c ns _ ((HR.out.below hb5).more hb5.size) hns HSM.out).mono ?_
  rintro e w6 ⟨A6, c6, rfl, ho6, hw6⟩
  have hb6 := hb5.trans (hw6.mono hb5.size)
  have HO6 := hid ho6
  clear ho6
  go_wp2_with fail
  refine (eqNodeS_any A4 A6 c4 c6 ns _ (HO5.out.below hw6).rn HO6.out.rn HF.out HN.out).mono ?_
  rintro e w7 ⟨rfl, hw7⟩
  have hb7 := hb6.trans (hw7.mono hb6.size)
  go_wp2_with fail
  go_ret
  exact ⟨rfl, hb7⟩

set_option maxRecDepth 100000 in
theorem exactCountIn_lifted (os : Os) (started : os.Started) (H : Type) (enc : TypeId × Value → H) :
    ReturnsInHanded {} Try.checked os 10 .any (Rows.fnExactCountInSpec.pre6 enc Try.prog Try.f10 Rows.fnExactCountInRow.domain false) (Rows.fnExactCountInSpec.post enc Try.prog Try.f10 false true false false) := by
  refine returnsInHanded_of_change (C := Try.checked) own started (by kernel_rfl) Try.func10
    (ChangeSpec.witness6 (enc := enc) (C := Try.checked) false ⟨#[], #[.slice none 0 0, .string ⟨#[]⟩, .string ⟨#[]⟩], []⟩ 8 (by kernel_rfl) (by kernel_rfl) (by kernel_rfl) (by kernel_rfl)) ?_
  intro W base args ds gs before hval hW _ _
  have hW' := hW
  obtain ⟨p, q, hA0, hV, rfl, hfz, hnd⟩ := hW
  have hA : DataW.TrodAll enc Try.prog W 0 (fun _ => true) true Try.f10.params.toList args.toList ds p := hA0
  rw [Try.params10] at hA hval
  obtain ⟨v0, vs0, d0, ds0, p0, q0, hargs, rfl, rfl, h0, r0⟩ := trodAll_cons hA
  obtain ⟨v1, vs1, d1, ds1, p1, q1, rfl, rfl, rfl, h1, r1⟩ := trodAll_cons r0
  obtain ⟨v2, vs2, d2, ds2, p2, q2, rfl, rfl, rfl, h2, r2⟩ := trodAll_cons r1
  obtain ⟨rfl, rfl, rfl⟩ := trodAll_nil r2
  obtain rfl : args = #[v0, v1, v2] := by cases args; simp_all
  clear hargs
  obtain ⟨A0, c0, ns, rfl, rr0, f0, n0⟩ := open_nodes (hval 0 22 v0 rfl rfl) h0
  obtain ⟨lo, rfl, rfl, rfl, w1⟩ := Go.ChangeMaps.open_string Try.underlying9 (hval 1 9 v1 rfl rfl) h1
  obtain ⟨hi, rfl, rfl, rfl, w2⟩ := Go.ChangeMaps.open_string Try.underlying9 (hval 2 9 v2 rfl rfl) h2
  refine (exactCountIn_walk A0 c0 ns lo hi W rr0 f0 n0 w1 w2).mono fun e W' ⟨he, hw⟩ => ?_
  subst he
  exact ⟨_, rfl, law_post (tb := 4) laidOut (by kernel_rfl) rfl hW' Try.underlying4 (by kernel_rfl) (fun gs' e => by subst e; rfl) hw⟩

theorem exactCountIn_holds : Rows.FnExactCountInSaid :=
  OpenClaim.holds_of_wide 10 Try.f10 rfl rfl rfl rfl rfl rfl rfl ⟨rfl, rfl, rfl, rfl, rfl⟩ rfl rfl rfl rfl rfl (by kernel_rfl) Try.func10 (by kernel_rfl)
    (of_decide_eq_true (by kernel_rfl)) (by unfold Func.isWrapper; rw [if_neg (of_decide_eq_false (by kernel_rfl))]; exact ⟨rfl, rfl⟩)
    (fun os started H enc _ => exactCountIn_lifted os started H enc)
end Go.Proofs.Ytaiehccpefjbfab
