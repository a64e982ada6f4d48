/-
  FnExactScanDown answers true at every argument, and its arguments read as they did. No condition.
-/
import Derived.Test.YtaiehccpefjbfabScanD
import Derived.Test.YtaiehccpefjbfabOpenNodes
import Derived.Test.YtaiehccpefjbfabNodesOwn
import Derived.Test.YtaiehccpefjbfabMadeKit
namespace Go.Proofs.Ytaiehccpefjbfab
open Go.ChangeShapes Go.WideShapes Go.ChangeAt Go.RowKit

set_option maxHeartbeats 4000000 in
set_option maxRecDepth 100000 in
theorem exactScanDown_walk (A : Option Addr) (c : Nat) (ns : List ND) (hi : ByteArray) (most : Int) (w : World) (hr : RN w w.heap.size A ns) (hf : FitsN ns) (hn : ns.length ≤ maxLen) (s_hi : hi.size ≤ maxLen) :
    Calls Try.prog 9 #[.slice A ns.length c, .string hi, .int .i64 most] w fun e w' => e = .returned (.bool true) ∧ Below w.heap.size w w' := by
  have HR := hid hr
  have HF := hid hf
  have HN := hid hn
  clear hr hf hn
  unfold maxLen at s_hi
  go_enter Try.func9, Try.ntmps9
  by_cases big_hi : 1048576 < hi.size
  · go_wp2_with fail
    go_ret
    exact ⟨rfl, Below.refl _ _⟩
  have sm_hi : hi.size ≤ maxLen := by unfold maxLen; omega
  go_wp2_with fail
  refine (szNodeS_any A c ns 1048576 _ HR.out HF.out HN.out (by omega) (by omega)).mono ?_
  rintro e w1 ⟨r, rfl, hr1, hr2, hr3, hb1⟩
  have HZ := hid hr3
  clear hr3
  by_cases hneg : r < 0
  · go_wp2_with fail
    go_ret
    exact ⟨rfl, hb1⟩
  have hns : ns.length ≤ 1048576 := by have := (HZ.out (by omega)).1; omega
  have HSM := hid (HZ.out (by omega)).2
  go_wp2_with fail
  refine (toNodeS_any A c ns _ ((HR.out.below hb1).more hb1.size) hns HSM.out).mono ?_
  rintro e w2 ⟨A2, c2, rfl, ho2, hw2⟩
  have hb2 := hb1.trans (hw2.mono hb1.size)
  have HO2 := hid ho2
  clear ho2
  go_wp2_with fail
  refine (spec_ScanDown A2 c2 ns hi most _ HO2.out.rn HF.out HSM.out hns).mono ?_
  rintro e w3 ⟨A3, c3, rfl, ho3, hw3⟩
  have hb3 := hb2.trans (hw3.mono hb2.size)
  obtain ⟨Q, HQ⟩ : ∃ Q, Hid (downL (rangeL (pairsOf ns) ⟨#[]⟩ hi) most = Q) := ⟨_, rfl⟩
  have HL : Hid (Q.length ≤ 400) := by rw [← HQ.out]; exact Nat.le_trans (downL_len _ _) (Nat.le_trans (rangeL_len _ _ _) (pairsOf_rise HSM.out HF.out).1)
  rw [HQ.out] at ho3
  rw [HQ.out]
  have R3 := hid ho3
  clear ho3
  go_wp2_with fail
  refine (toNodeS_own A c ns _ ((HR.out.below hb3).more hb3.size) hns HSM.out).mono ?_
  rintro e w4 ⟨g4, L4, rfl, hl4, hg4, ho4, hw4⟩
  have hb4 := hb3.trans (hw4.mono hb3.size)
  have HL4 := hid hl4
  have HG4 := hid hg4
  have HO4 := hid ho4
  have HSM4 : Hid (∀ x ∈ L4, x.ps.length ≤ 1048577 ∧ x.ks.length ≤ 1048577) := fun x hx => by
    have h : NH.nd x ∈ ns := by rw [← hl4]; exact List.mem_map_of_mem hx
    obtain ⟨i, hi, e⟩ := List.getElem_of_mem h
    have := HSM.out i hi
    rw [e] at this
    exact ⟨Nat.le_trans this.1 (by omega), Nat.le_trans this.2 (by omega)⟩
  have hlen : L4.length = ns.length := by rw [← hl4, List.length_map]
  have HLEN := hid hlen
  have rn4 := ho4.rn
  rw [hl4] at rn4
  have X4 := hid rn4
  clear hl4 hg4 ho4 rn4 hlen
  have R4 := hid (R3.out.below hw4)
  go_wp2_with fail
  refine (impl_ScanDown (some ⟨g4, 0, none⟩) ns.length ns hi most _ X4.out HF.out HSM.out hns).mono ?_
  rintro e w5 ⟨A5, c5, rfl, ho5, hw5⟩
  rw [HQ.out] at ho5
  rw [HQ.out]
  have hb5 := hb4.trans (hw5.mono hb4.size)
  have HO5 := hid ho5
  clear ho5
  have N5 := hid (HO4.out.below hw5)
  have X5 := hid ((X4.out.below hw5).more hw5.size)
  have R5 := hid (R4.out.below (hw5.mono hw4.size))
  have ht : decide (Q = Q) = true := by simp
  have hml : Q.length ≤ maxLen := by have := HL.out; unfold maxLen; omega
  have HML := hid hml
  clear hml
  go_wp2_with fail
  refine (eqPairS_any A5 A3 c5 c3 Q Q _ HO5.out.rp (R5.out.more (Nat.le_trans hw4.size hw5.size)) HML.out).mono ?_
  rintro e w6 ⟨rfl, hw6⟩
  have hb6 := hb5.trans (hw6.mono hb5.size)
  have N6 := hid (N5.out.below hw6)
  have X6 := hid ((X5.out.below hw6).more hw6.size)
  have G6 := hid (HO5.out.below hw6)
  have R6 := hid (R5.out.below (hw6.mono (Nat.le_trans hw4.size hw5.size)))
  go_wp2_with fail
  refine (toNodeS_any A c ns _ ((HR.out.below hb6).more hb6.size) hns HSM.out).mono ?_
  rintro e w7 ⟨A7, c7, rfl, ho7, hw7⟩
  have hb7 := hb6.trans (hw7.mono hb6.size)
  have HO7 := hid ho7
  clear ho7
  have N7 := hid (N6.out.below hw7)
  have X7 := hid ((X6.out.below hw7).more hw7.size)
  have G7 := hid (G6.out.below hw7)
  have S7 : w3.heap.size ≤ w6.heap.size := Nat.le_trans (Nat.le_trans hw4.size hw5.size) hw6.size
  have R7 := hid (R6.out.below (hw7.mono S7))
  go_wp2_with fail
  refine (eqNodeS_any (some ⟨g4, 0, none⟩) A7 ns.length c7 ns _ X7.out HO7.out.rn HF.out HN.out).mono ?_
  rintro e w8 ⟨rfl, hw8⟩
  have hb8 := hb7.trans (hw8.mono hb7.size)
  have N8 := hid (N7.out.below hw8)
  have G8 := hid (G7.out.below hw8)
  have S8 : w3.heap.size ≤ w7.heap.size := Nat.le_trans S7 hw7.size
  have R8 := hid (R7.out.below (hw8.mono S8))
  have S9 : w3.heap.size ≤ w8.heap.size := Nat.le_trans S8 hw8.size
  have S10 : w4.heap.size ≤ w8.heap.size := Nat.le_trans (Nat.le_trans (Nat.le_trans hw5.size hw6.size) hw7.size) hw8.size
  have hmk := markNodeS_any g4 (some ⟨g4, 0, none⟩) ns.length L4 1 _ N8.out (by rw [HLEN.out]; exact hns) HSM4.out (by omega)
  rw [HLEN.out] at hmk
  go_wp2_with fail
  refine hmk.mono ?_
  rintro e w9 ⟨rfl, _, hg9⟩
  have R9 := hid (R8.out.below (hg9.below S9 (fun b hb => Nat.le_trans HG4.out (inRows_lt HO4.out hb).1)))
  have G9 : Hid (OwnP w9 w4.heap.size A5 c5 Q) := ownsRow_keep G8.out fun k hk => hg9.block k (World.ownsRow.lt G8.out k hk).2 (fun hi => by
    have h1 := (inRows_lt HO4.out hi).2
    have h2 := (World.ownsRow.lt G8.out k hk).1
    omega)
  have hb9 := hb8.trans (hg9.below (B := w.heap.size) hb8.size (fun b hb => Nat.le_trans hb3.size (Nat.le_trans HG4.out (inRows_lt HO4.out hb).1)))
  have S11 := hg9.size
  clear hmk
  go_wp2_with fail
  refine (eqPairS_any A5 A3 c5 c3 Q Q _ G9.out.rp (R9.out.more (Nat.le_trans S9 S11)) HML.out).mono ?_
  rintro e w10 ⟨rfl, hw10⟩
  have hb10 := hb9.trans (hw10.mono hb9.size)
  have G10 := hid (G9.out.below hw10)
  have R10 := hid (R9.out.below (hw10.mono (Nat.le_trans S9 S11)))
  have S12 := hw10.size
  go_wp2_with fail
  refine (markPairS_any _ A5 c5 Q 1 _ G10.out (Nat.le_trans HL.out (by omega)) (by omega)).mono ?_
  rintro e w11 ⟨rfl, ho11, hg11⟩
  have S3 : w3.heap.size ≤ w4.heap.size := hw4.size
  have R11 := hid (R10.out.grown_hi hg11 (by omega) (fun k hk => Nat.le_trans S3 (HO5.out.size k hk).1))
  have hb11 := hb10.grown hg11 hb10.size (fun k hk => Nat.le_trans hb4.size (HO5.out.size k hk).1)
  have S13 := hg11.size
  have M11 : Hid (OwnP w11 w4.heap.size A5 c5 (marksL Q.length 1)) := by
    unfold Hid OwnP
    rw [marksL_len]
    exact ho11
  clear ho11
  go_wp2_with fail
  refine (heldPairS_any A5 c5 Q.length 1 _ M11.out.rp (Nat.le_trans HL.out (by omega)) (by omega)).mono ?_
  rintro e w12 ⟨rfl, hw12⟩
  have hb12 := hb11.trans (hw12.mono hb11.size)
  have M12 := hid (M11.out.below hw12)
  have R12 := hid (R11.out.below (hw12.mono (by omega)))
  have S14 := hw12.size
  go_wp2_with fail
  refine (toNodeS_any A c ns _ ((HR.out.below hb12).more hb12.size) hns HSM.out).mono ?_
  rintro e w13 ⟨A13, c13, rfl, ho13, hw13⟩
  have hb13 := hb12.trans (hw13.mono hb12.size)
  have HO13 := hid ho13
  clear ho13
  have M13 := hid (M12.out.below hw13)
  have R13 := hid (R12.out.below (hw13.mono (by omega)))
  have S15 := hw13.size
  go_wp2_with fail
  refine (impl_ScanDown A13 c13 ns hi most _ HO13.out.rn HF.out HSM.out hns).mono ?_
  rintro e w14 ⟨A14, c14, rfl, ho14, hw14⟩
  rw [HQ.out] at ho14
  rw [HQ.out]
  have hb14 := hb13.trans (hw14.mono hb13.size)
  have HO14 := hid ho14
  clear ho14
  have M14 := hid (M13.out.below hw14)
  have R14 := hid (R13.out.below (hw14.mono (by omega)))
  have S16 := hw14.size
  go_wp2_with fail
  refine (eqPairS_any A14 A3 c14 c3 Q Q _ HO14.out.rp (R14.out.more (by omega)) HML.out).mono ?_
  rintro e w15 ⟨rfl, hw15⟩
  have hb15 := hb14.trans (hw15.mono hb14.size)
  have M15 := hid (M14.out.below hw15)
  go_wp2_with fail
  refine (heldPairS_any A5 c5 Q.length 1 _ M15.out.rp (Nat.le_trans HL.out (by omega)) (by omega)).mono ?_
  rintro e w16 ⟨rfl, hw16⟩
  have hb16 := hb15.trans (hw16.mono hb15.size)
  go_wp2_with fail
  go_ret
  exact ⟨rfl, hb16⟩

set_option maxRecDepth 100000 in
theorem exactScanDown_lifted (os : Os) (started : os.Started) (H : Type) (enc : TypeId × Value → H) :
    ReturnsInHanded {} Try.checked os 9 .any (Rows.fnExactScanDownSpec.pre6 enc Try.prog Try.f9 Rows.fnExactScanDownRow.domain false) (Rows.fnExactScanDownSpec.post enc Try.prog Try.f9 false true false false) := by
  refine returnsInHanded_of_change (C := Try.checked) own started (by kernel_rfl) Try.func9
    (ChangeSpec.witness6 (enc := enc) (C := Try.checked) false ⟨#[], #[.slice none 0 0, .string ⟨#[]⟩, .int .i64 0], []⟩ 8 (by kernel_rfl) (by kernel_rfl) (by kernel_rfl) (by kernel_rfl)) ?_
  intro W base args ds gs before hval hW _ _
  have hW' := hW
  obtain ⟨p, q, hA0, hV, rfl, hfz, hnd⟩ := hW
  have hA : DataW.TrodAll enc Try.prog W 0 (fun _ => true) true Try.f9.params.toList args.toList ds p := hA0
  rw [Try.params9] at hA hval
  obtain ⟨v0, vs0, d0, ds0, p0, q0, hargs, rfl, rfl, h0, r0⟩ := trodAll_cons hA
  obtain ⟨v1, vs1, d1, ds1, p1, q1, rfl, rfl, rfl, h1, r1⟩ := trodAll_cons r0
  obtain ⟨v2, vs2, d2, ds2, p2, q2, rfl, rfl, rfl, h2, r2⟩ := trodAll_cons r1
  obtain ⟨rfl, rfl, rfl⟩ := trodAll_nil r2
  obtain rfl : args = #[v0, v1, v2] := by cases args; simp_all
  clear hargs
  obtain ⟨A0, c0, ns, rfl, rr0, f0, n0⟩ := open_nodes (hval 0 22 v0 rfl rfl) h0
  obtain ⟨hi, rfl, rfl, rfl, w1⟩ := Go.ChangeMaps.open_string Try.underlying9 (hval 1 9 v1 rfl rfl) h1
  obtain ⟨most, rfl, rfl, rfl, w2⟩ := Go.ChangeShapes.open_int Try.underlying2 (hval 2 2 v2 rfl rfl) h2
  refine (exactScanDown_walk A0 c0 ns hi most W rr0 f0 n0 w1 ).mono fun e W' ⟨he, hw⟩ => ?_
  subst he
  exact ⟨_, rfl, law_post (tb := 4) laidOut (by kernel_rfl) rfl hW' Try.underlying4 (by kernel_rfl) (fun gs' e => by subst e; rfl) hw⟩

theorem exactScanDown_holds : Rows.FnExactScanDownSaid :=
  OpenClaim.holds_of_wide 9 Try.f9 rfl rfl rfl rfl rfl rfl rfl ⟨rfl, rfl, rfl, rfl, rfl⟩ rfl rfl rfl rfl rfl (by kernel_rfl) Try.func9 (by kernel_rfl)
    (of_decide_eq_true (by kernel_rfl)) (by unfold Func.isWrapper; rw [if_neg (of_decide_eq_false (by kernel_rfl))]; exact ⟨rfl, rfl⟩)
    (fun os started H enc _ => exactScanDown_lifted os started H enc)
end Go.Proofs.Ytaiehccpefjbfab
