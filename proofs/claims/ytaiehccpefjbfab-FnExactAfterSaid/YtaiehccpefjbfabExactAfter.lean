/-
  FnExactAfter answers true at every argument, and its arguments read as they did. No condition.
-/
import Derived.Test.YtaiehccpefjbfabSpecCur
import Derived.Test.YtaiehccpefjbfabOpenNodes
namespace Go.Proofs.Ytaiehccpefjbfab
open Go.ChangeShapes Go.WideShapes Go.ChangeAt Go.RowKit

set_option maxHeartbeats 2000000 in
set_option maxRecDepth 100000 in
theorem exactAfter_walk (A : Option Addr) (c : Nat) (ns : List ND) (k : ByteArray) (w : World) (hr : RN w w.heap.size A ns) (hf : FitsN ns) (hn : ns.length ≤ maxLen) (s_k : k.size ≤ maxLen) :
    Calls Try.prog 4 #[.slice A ns.length c, .string k] w fun e w' => e = .returned (.bool true) ∧ Below w.heap.size w w' := by
  have HR := hid hr
  have HF := hid hf
  have HN := hid hn
  clear hr hf hn
  unfold maxLen at s_k
  go_enter Try.func4, Try.ntmps4
  by_cases big_k : 1048576 < k.size
  · go_wp2_with fail
    go_ret
    exact ⟨rfl, Below.refl _ _⟩
  have sm_k : k.size ≤ maxLen := by unfold maxLen; omega
  go_wp2_with fail
  refine (szNodeS_any A c ns 1048576 _ HR.out HF.out HN.out (by omega) (by omega)).mono ?_
  rintro e w1 ⟨r, rfl, hr1, hr2, hr3, hb1⟩
  have HZ := hid hr3
  clear hr3
  by_cases hneg : r < 0
  · go_wp2_with fail
    go_ret
    exact ⟨rfl, hb1⟩
  have hns : ns.length ≤ 1048576 := by have := (HZ.out (by omega)).1; omega
  have HSM := hid (HZ.out (by omega)).2
  go_wp2_with fail
  refine (toNodeS_any A c ns _ ((HR.out.below hb1).more hb1.size) hns HSM.out).mono ?_
  rintro e w2 ⟨A2, c2, rfl, ho2, hw2⟩
  have hb2 := hb1.trans (hw2.mono hb1.size)
  have HO2 := hid ho2
  clear ho2
  go_wp2_with fail
  refine (spec_After A2 c2 ns k _ HO2.out.rn HF.out HSM.out hns).mono ?_
  rintro e w3 ⟨rfl, hw3⟩
  have hb3 := hb2.trans (hw3.mono hb2.size)
  obtain ⟨p, s, HO⟩ : ∃ (p : BB) (s : Bool), Hid (foundP ((pairsOf ns).find? (fun p => gtB p.1 k)) = .tuple #[.agg #[.string p.1, .string p.2], .bool s]) := ⟨_, _, rfl⟩
  rw [HO.out]
  have HT3 := hid (Two.new w3 25 (.string p.1) (.string p.2))
  have hx3 := hb3.alloc hb3.size (.cells #[.string p.1, .string p.2] 25)
  go_wp2_with fail
  refine (toNodeS_any A c ns _ ((HR.out.below hx3).more hx3.size) hns HSM.out).mono ?_
  rintro e w4 ⟨A4, c4, rfl, ho4, hw4⟩
  have hb4 := hx3.trans (hw4.mono hx3.size)
  have HO4 := hid ho4
  have HT4 := hid (HT3.out.below hw4)
  clear ho4
  go_wp2_with fail
  refine (impl_After A4 c4 ns k _ HO4.out.rn HF.out HSM.out hns).mono ?_
  rintro e w5 ⟨rfl, hw5⟩
  have hb5 := hb4.trans (hw5.mono hb4.size)
  have HO5 := hid (HO4.out.below hw5)
  rw [firstT_find (fun p => gtB p.1 k)]
  rw [HO.out]
  have HT5 := hid (HT4.out.below hw5)
  have hy5 : Below w5.heap.size w5 (w5.alloc (.cells #[.string p.1, .string p.2] 25)) := (Below.refl _ _).alloc (Nat.le_refl _) _
  have HT6 := hid (HT5.out.below hy5)
  have HU6 := hid (Two.new w5 25 (.string p.1) (.string p.2))
  have hb6 := hb5.trans (hy5.mono hb5.size)
  have HO6 := hid (HO5.out.below hy5)
  have q0 := HT6.out.c0
  have q1 := HT6.out.c1
  have q2 := HU6.out.c0
  have q3 := HU6.out.c1
  have hbb : (s != s) = false := by simp
  go_wp2_with fail
  refine (eqPair_any p p _).mono ?_
  rintro e w6 ⟨rfl, hw6⟩
  have hb6' : Below w.heap.size w w6 := by rw [hw6]; exact (hb6.alloc hb6.size _).alloc (by simp; have := hb6.size; simp at this; omega) _
  have HO7 : Hid (OwnN w6 w3.heap.size.succ A4 c4 ns) := by
    rw [hw6]
    have := HO6.out.below (((Below.refl _ _).alloc (Nat.le_refl _) (.cells #[.string p.1, .string p.2] 25)).alloc (by simp) (.cells #[.string p.1, .string p.2] 25))
    simpa [Hid] using this
  have hpp : decide (p = p) = true := by simp
  rw [hpp]
  clear hw6 q0 q1 q2 q3 HT6 HU6 HT5 HT4 HT3 hy5 hb6
  go_wp2_with fail
  refine (toNodeS_any A c ns _ ((HR.out.below hb6').more hb6'.size) hns HSM.out).mono ?_
  rintro e w7 ⟨A7, c7, rfl, ho7, hw7⟩
  have hb7 := hb6'.trans (hw7.mono hb6'.size)
  have HO8 := hid ho7
  clear ho7
  go_wp2_with fail
  refine (eqNodeS_any A4 A7 c4 c7 ns _ (HO7.out.below hw7).rn HO8.out.rn HF.out HN.out).mono ?_
  rintro e w8 ⟨rfl, hw8⟩
  have hb8 := hb7.trans (hw8.mono hb7.size)
  go_wp2_with fail
  go_ret
  exact ⟨rfl, hb8⟩

set_option maxRecDepth 100000 in
theorem exactAfter_lifted (os : Os) (started : os.Started) (H : Type) (enc : TypeId × Value → H) :
    ReturnsInHanded {} Try.checked os 4 .any (Rows.fnExactAfterSpec.pre6 enc Try.prog Try.f4 Rows.fnExactAfterRow.domain false) (Rows.fnExactAfterSpec.post enc Try.prog Try.f4 false true false false) := by
  refine returnsInHanded_of_change (C := Try.checked) own started (by kernel_rfl) Try.func4
    (ChangeSpec.witness6 (enc := enc) (C := Try.checked) false ⟨#[], #[.slice none 0 0, .string ⟨#[]⟩], []⟩ 8 (by kernel_rfl) (by kernel_rfl) (by kernel_rfl) (by kernel_rfl)) ?_
  intro W base args ds gs before hval hW _ _
  have hW' := hW
  obtain ⟨p, q, hA0, hV, rfl, hfz, hnd⟩ := hW
  have hA : DataW.TrodAll enc Try.prog W 0 (fun _ => true) true Try.f4.params.toList args.toList ds p := hA0
  rw [Try.params4] at hA hval
  obtain ⟨v0, vs0, d0, ds0, p0, q0, hargs, rfl, rfl, h0, r0⟩ := trodAll_cons hA
  obtain ⟨v1, vs1, d1, ds1, p1, q1, rfl, rfl, rfl, h1, r1⟩ := trodAll_cons r0
  obtain ⟨rfl, rfl, rfl⟩ := trodAll_nil r1
  obtain rfl : args = #[v0, v1] := by cases args; simp_all
  clear hargs
  obtain ⟨A0, c0, ns, rfl, rr0, f0, n0⟩ := open_nodes (hval 0 22 v0 rfl rfl) h0
  obtain ⟨k, rfl, rfl, rfl, w1⟩ := Go.ChangeMaps.open_string Try.underlying9 (hval 1 9 v1 rfl rfl) h1
  refine (exactAfter_walk A0 c0 ns k W rr0 f0 n0 w1).mono fun e W' ⟨he, hw⟩ => ?_
  subst he
  exact ⟨_, rfl, law_post (tb := 4) laidOut (by kernel_rfl) rfl hW' Try.underlying4 (by kernel_rfl) (fun gs' e => by subst e; rfl) hw⟩

theorem exactAfter_holds : Rows.FnExactAfterSaid :=
  OpenClaim.holds_of_wide 4 Try.f4 rfl rfl rfl rfl rfl rfl rfl ⟨rfl, rfl, rfl, rfl, rfl⟩ rfl rfl rfl rfl rfl (by kernel_rfl) Try.func4 (by kernel_rfl)
    (of_decide_eq_true (by kernel_rfl)) (by unfold Func.isWrapper; rw [if_neg (of_decide_eq_false (by kernel_rfl))]; exact ⟨rfl, rfl⟩)
    (fun os started H enc _ => exactAfter_lifted os started H enc)
end Go.Proofs.Ytaiehccpefjbfab
