import Derived.Test.YtcjbjfhndjpmcaaPk48
import Derived.Test.YtcjbjfhndjpmcaaPk20
import Derived.Test.YtcjbjfhndjpmcaaPk39
/-
  FnExactTreeOf answers true at every list of pairs, and its argument reads as it did. No condition.
-/
namespace Go.Proofs.Ytcjbjfhndjpmcaa
open Go.ChangeShapes Go.WideShapes Go.ChangeAt Go.RowKit

mutual
theorem lay_in : ∀ (t : BT) (n : Nat), ∀ nd ∈ layT t n, nd.1.length ≤ (allT t).length ∧ (∀ p ∈ nd.1, p ∈ allT t) ∧ nd.2.length ≤ szT t
  | .node ps ks, n, nd, h => by
    rw [layT] at h
    rw [allT, szT, List.length_append]
    rcases List.mem_cons.1 h with rfl | h
    · exact ⟨Nat.le_add_right _ _, fun p hp => List.mem_append_left _ hp, by rw [kidsAt_len]; have := kids_len ks; omega⟩
    · obtain ⟨h1, h2, h3⟩ := layK_in ks (n + 1) nd h
      exact ⟨by omega, fun p hp => List.mem_append_right _ (h2 p hp), by omega⟩
theorem layK_in : ∀ (ks : List BT) (n : Nat), ∀ nd ∈ layK ks n, nd.1.length ≤ (allK ks).length ∧ (∀ p ∈ nd.1, p ∈ allK ks) ∧ nd.2.length ≤ szK ks
  | [], n, nd, h => by simp [layK] at h
  | t :: r, n, nd, h => by
    rw [layK] at h
    rw [allK, szK, List.length_append]
    rcases List.mem_append.1 h with h | h
    · obtain ⟨h1, h2, h3⟩ := lay_in t n nd h
      exact ⟨by omega, fun p hp => List.mem_append_left _ (h2 p hp), by omega⟩
    · obtain ⟨h1, h2, h3⟩ := layK_in r _ nd h
      exact ⟨by omega, fun p hp => List.mem_append_right _ (h2 p hp), by omega⟩
end
theorem ofTR_facts {ps : PS} (hf : Fits ps) : (ofTR ps).length ≤ 61 ∧ ∀ nd ∈ ofTR ps, Fits nd.1 ∧ nd.1.length ≤ 61 ∧ nd.2.length ≤ 61 := by
  unfold ofTR
  cases hb : mapB ps
  · exact ⟨Nat.zero_le _, fun nd h => by simp at h⟩
  · have hl := (mapB_iff.1 hb).1
    obtain ⟨⟨m, hm⟩, hall⟩ := make_good ps
    have hz := good_few hm
    rw [hall] at hz
    rw [if_pos rfl]
    refine ⟨by rw [layT_len]; omega, fun nd h => ?_⟩
    obtain ⟨h1, h2, h3⟩ := lay_in _ _ nd h
    rw [hall] at h1 h2
    exact ⟨fun p hp => hf p (h2 p hp), by omega, by omega⟩

set_option maxHeartbeats 4000000 in
set_option maxRecDepth 100000 in
theorem exactTreeOf_walk (A : Option Addr) (c : Nat) (ps : PS) (w : World) (hr : RP w w.heap.size A ps) (hf : Fits ps) (hn : ps.length ≤ maxLen) :
    Calls Try.prog 3 #[.slice A ps.length c] w fun e w' => e = .returned (.bool true) ∧ Below w.heap.size w w' := by
  have HR := hid hr
  have HF := hid hf
  have HN := hid hn
  have HNF := hid (ofTR_facts hf)
  have HFN : Hid (FitsN (ofTR ps) ∧ (ofTR ps).length ≤ maxLen ∧ (ofTR ps).length ≤ 1048576) := by
    have h := ofTR_facts hf
    exact ⟨fun nd hnd => ⟨(h.2 nd hnd).1, by have := (h.2 nd hnd).2.1; unfold maxLen; omega, by have := (h.2 nd hnd).2.2; unfold maxLen; omega⟩, by unfold maxLen; omega, by omega⟩
  clear hr hf hn
  go_enter Try.func3, Try.ntmps3
  go_wp2_with fail
  refine (szPairS_any A c ps 1048576 _ HR.out HF.out HN.out (by omega) (by omega)).mono ?_
  rintro e w1 ⟨r, rfl, hr1, hr2, hr3, hb1⟩
  have HZ := hid hr3
  clear hr3
  by_cases hneg : r < 0
  · go_wp2_with fail
    go_ret
    exact ⟨rfl, hb1⟩
  have hps : ps.length ≤ 1048576 := by have := (HZ.out (by omega)).1; omega
  go_wp2_with fail
  refine (toPairS_any A c ps _ ((HR.out.below hb1).more hb1.size) hps).mono ?_
  rintro e w2 ⟨A2, c2, rfl, ho2, hw2⟩
  have hb2 := hb1.trans (hw2.mono hb1.size)
  have HO2 := hid ho2
  clear ho2
  go_wp2_with fail
  refine (spec_TreeOf A2 c2 ps _ HO2.out.rp HO2.out.vs HF.out hps).mono ?_
  rintro e w3 ⟨A3, c3, L3, rfl, hl3, ho3, hw3⟩
  have hb3 := hb2.trans (hw3.mono hb2.size)
  have HO3 := hid ho3
  have rn3 := ho3.rn
  rw [hl3] at rn3
  have Q3 := hid rn3
  have HLE3 : Hid (L3.length = (ofTR ps).length) := by rw [Hid, ← hl3, List.length_map]
  have HSM3 : Hid (∀ x ∈ L3, x.ps.length ≤ 1048577 ∧ x.ks.length ≤ 1048577) := fun x hx => by
    have h : NH.nd x ∈ ofTR ps := by rw [← hl3]; exact List.mem_map_of_mem hx
    have := HNF.out.2 _ h
    exact ⟨Nat.le_trans this.2.1 (by omega), Nat.le_trans this.2.2 (by omega)⟩
  clear ho3 rn3 hl3
  go_wp2_with fail
  refine (toPairS_any A c ps _ ((HR.out.below hb3).more hb3.size) hps).mono ?_
  rintro e w4 ⟨A4, c4, rfl, ho4, hw4⟩
  have hb4 := hb3.trans (hw4.mono hb3.size)
  have HO4 := hid ho4
  clear ho4
  have R4 := hid (Q3.out.below hw4)
  go_wp2_with fail
  refine (impl_TreeOf A4 c4 ps _ HO4.out.rp HO4.out.vs HF.out hps).mono ?_
  rintro e w5 ⟨A5, c5, L5, rfl, hl5, ho5, hw5⟩
  have hb5 := hb4.trans (hw5.mono hb4.size)
  have HO5 := hid ho5
  have rn5 := ho5.rn
  rw [hl5] at rn5
  have Q5 := hid rn5
  have HMP5 := hid hl5
  have HLE5 : Hid (L5.length = (ofTR ps).length) := by rw [Hid, ← hl5, List.length_map]
  have HSM5 : Hid (∀ x ∈ L5, x.ps.length ≤ 1048577 ∧ x.ks.length ≤ 1048577) := fun x hx => by
    have h : NH.nd x ∈ ofTR ps := by rw [← hl5]; exact List.mem_map_of_mem hx
    have := HNF.out.2 _ h
    exact ⟨Nat.le_trans this.2.1 (by omega), Nat.le_trans this.2.2 (by omega)⟩
  clear ho5 rn5 hl5
  have X5 := hid (HO4.out.below hw5)
  have R5 := hid (R4.out.below (hw5.mono hw4.size))
  go_wp2_with fail
  refine (eqNodeS_any A5 A3 c5 c3 (ofTR ps) _ Q5.out (R5.out.more (Nat.le_trans hw4.size hw5.size)) HFN.out.1 HFN.out.2.1).mono ?_
  rintro e w6 ⟨rfl, hw6⟩
  have hb6 := hb5.trans (hw6.mono hb5.size)
  have X6 := hid (X5.out.below hw6)
  have G6 := hid (HO5.out.below hw6)
  have R6 := hid (R5.out.below (hw6.mono (Nat.le_trans hw4.size hw5.size)))
  go_wp2_with fail
  refine (toPairS_any A c ps _ ((HR.out.below hb6).more hb6.size) hps).mono ?_
  rintro e w7 ⟨A7, c7, rfl, ho7, hw7⟩
  have hb7 := hb6.trans (hw7.mono hb6.size)
  have HO7 := hid ho7
  clear ho7
  have X7 := hid (X6.out.below hw7)
  have G7 := hid (G6.out.below hw7)
  have S7 : w3.heap.size ≤ w6.heap.size := Nat.le_trans (Nat.le_trans hw4.size hw5.size) hw6.size
  have R7 := hid (R6.out.below (hw7.mono S7))
  have ht2 : decide (ps = ps) = true := by simp
  go_wp2_with fail
  refine (eqPairS_any A4 A7 c4 c7 ps ps _ X7.out.rp HO7.out.rp HN.out).mono ?_
  rintro e w8 ⟨rfl, hw8⟩
  have hb8 := hb7.trans (hw8.mono hb7.size)
  have X8 := hid (X7.out.below hw8)
  have G8 := hid (G7.out.below hw8)
  have S8 : w3.heap.size ≤ w7.heap.size := Nat.le_trans S7 hw7.size
  have R8 := hid (R7.out.below (hw8.mono S8))
  have S9 : w3.heap.size ≤ w8.heap.size := Nat.le_trans S8 hw8.size
  have S10 : w4.heap.size ≤ w8.heap.size := Nat.le_trans (Nat.le_trans (Nat.le_trans hw5.size hw6.size) hw7.size) hw8.size
  go_wp2_with fail
  refine (markPairS_any _ A4 c4 ps 1 _ X8.out (by omega) (by omega)).mono ?_
  rintro e w9 ⟨rfl, _, hg9⟩
  have R9 := hid (R8.out.below ((Below.refl w3.heap.size w8).grown hg9 S9 (fun k hk => (HO4.out.size k hk).1)))
  have G9 : Hid (NodesO w9 w4.heap.size A5 c5 L5) := G8.out.mod (Mod.of_gr hg9 (fun k e => e)) (fun k hk e => by
    have h1 := (G8.out.1.lt k hk).1
    have h2 := (HO4.out.size k e).2
    omega) (fun k hk e => by
    have h1 := (inRows_lt G8.out hk).1
    have h2 := (HO4.out.size k e).2
    omega)
  have hb9 := hb8.grown hg9 hb8.size (fun k hk => Nat.le_trans hb3.size (HO4.out.size k hk).1)
  have S11 := hg9.size
  have q9 := G9.out.rn
  rw [HMP5.out] at q9
  have Q9 := hid q9
  clear q9
  go_wp2_with fail
  refine (eqNodeS_any A5 A3 c5 c3 (ofTR ps) _ Q9.out (R9.out.more (Nat.le_trans S9 S11)) HFN.out.1 HFN.out.2.1).mono ?_
  rintro e w10 ⟨rfl, hw10⟩
  have hb10 := hb9.trans (hw10.mono hb9.size)
  have G10 := hid (G9.out.below hw10)
  have R10 := hid (R9.out.below (hw10.mono (Nat.le_trans S9 S11)))
  have S12 := hw10.size
  have hmk := markNodeS_any w4.heap.size A5 c5 L5 1 _ G10.out (by rw [HLE5.out]; exact HFN.out.2.2) HSM5.out (by omega)
  rw [HLE5.out] at hmk
  go_wp2_with fail
  refine hmk.mono ?_
  rintro e w11 ⟨rfl, ho11, hg11⟩
  have S3 : w3.heap.size ≤ w4.heap.size := hw4.size
  have R11 := hid (R10.out.below (hg11.below (B := w3.heap.size) (by omega) (fun b hb => Nat.le_trans S3 (inRows_lt HO5.out hb).1)))
  have hb11 := hb10.trans (hg11.below (B := w.heap.size) hb10.size (fun b hb => Nat.le_trans hb4.size (inRows_lt HO5.out hb).1))
  have S13 := hg11.size
  have M11 := hid ho11
  clear ho11 hmk
  have hhd := heldNodeS_any w4.heap.size A5 c5 L5 1 _ M11.out (by rw [HLE5.out]; exact HFN.out.2.2) HSM5.out (by omega)
  rw [HLE5.out] at hhd
  have eneg : ¬ ((endN 1 L5 : Nat) : Int) < 0 := by omega
  go_wp2_with fail
  refine hhd.mono ?_
  rintro e w12 ⟨rfl, hw12⟩
  have hb12 := hb11.trans (hw12.mono hb11.size)
  have M12 := hid (M11.out.below hw12)
  have R12 := hid (R11.out.below (hw12.mono (by omega)))
  have S14 := hw12.size
  clear hhd
  go_wp2_with fail
  refine (toPairS_any A c ps _ ((HR.out.below hb12).more hb12.size) hps).mono ?_
  rintro e w13 ⟨A13, c13, rfl, ho13, hw13⟩
  have hb13 := hb12.trans (hw13.mono hb12.size)
  have HO13 := hid ho13
  clear ho13
  have M13 := hid (M12.out.below hw13)
  have R13 := hid (R12.out.below (hw13.mono (by omega)))
  have S15 := hw13.size
  go_wp2_with fail
  refine (impl_TreeOf A13 c13 ps _ HO13.out.rp HO13.out.vs HF.out hps).mono ?_
  rintro e w14 ⟨A14, c14, L14, rfl, hl14, ho14, hw14⟩
  have hb14 := hb13.trans (hw14.mono hb13.size)
  have HO14 := hid ho14
  have rn14 := ho14.rn
  rw [hl14] at rn14
  have Q14 := hid rn14
  have HLE14 : Hid (L14.length = (ofTR ps).length) := by rw [Hid, ← hl14, List.length_map]
  have HSM14 : Hid (∀ x ∈ L14, x.ps.length ≤ 1048577 ∧ x.ks.length ≤ 1048577) := fun x hx => by
    have h : NH.nd x ∈ ofTR ps := by rw [← hl14]; exact List.mem_map_of_mem hx
    have := HNF.out.2 _ h
    exact ⟨Nat.le_trans this.2.1 (by omega), Nat.le_trans this.2.2 (by omega)⟩
  clear ho14 rn14 hl14
  have M14 := hid (M13.out.below hw14)
  have R14 := hid (R13.out.below (hw14.mono (by omega)))
  have S16 := hw14.size
  go_wp2_with fail
  refine (eqNodeS_any A14 A3 c14 c3 (ofTR ps) _ Q14.out (R14.out.more (by omega)) HFN.out.1 HFN.out.2.1).mono ?_
  rintro e w15 ⟨rfl, hw15⟩
  have hb15 := hb14.trans (hw15.mono hb14.size)
  have M15 := hid (M14.out.below hw15)
  have hhd := heldNodeS_any w4.heap.size A5 c5 L5 1 _ M15.out (by rw [HLE5.out]; exact HFN.out.2.2) HSM5.out (by omega)
  rw [HLE5.out] at hhd
  go_wp2_with fail
  refine hhd.mono ?_
  rintro e w16 ⟨rfl, hw16⟩
  have hb16 := hb15.trans (hw16.mono hb15.size)
  go_wp2_with fail
  go_ret
  exact ⟨rfl, hb16⟩

set_option maxRecDepth 100000 in
theorem exactTreeOf_lifted (os : Os) (started : os.Started) (H : Type) (enc : TypeId × Value → H) :
    ReturnsInHanded {} Try.checked os 3 .any (Rows.fnExactTreeOfSpec.pre6 enc Try.prog Try.f3 Rows.fnExactTreeOfRow.domain false) (Rows.fnExactTreeOfSpec.post enc Try.prog Try.f3 false true false false) := by
  refine returnsInHanded_of_change (C := Try.checked) own started (by kernel_rfl) Try.func3
    (ChangeSpec.witness6 (enc := enc) (C := Try.checked) false ⟨#[], #[.slice none 0 0], []⟩ 8 (by kernel_rfl) (by kernel_rfl) (by kernel_rfl) (by kernel_rfl)) ?_
  intro W base args ds gs before hval hW _ _
  have hW' := hW
  obtain ⟨p, q, hA0, hV, rfl, hfz, hnd⟩ := hW
  have hA : DataW.TrodAll enc Try.prog W 0 (fun _ => true) true Try.f3.params.toList args.toList ds p := hA0
  rw [Try.params3] at hA hval
  obtain ⟨v0, vs0, d0, ds0, p0, q0, hargs, rfl, rfl, h0, r0⟩ := trodAll_cons hA
  obtain ⟨rfl, rfl, rfl⟩ := trodAll_nil r0
  obtain rfl : args = #[v0] := by cases args; simp_all
  clear hargs
  obtain ⟨A0, c0, ps, rfl, rr0, f0, n0⟩ := open_pairs (hval 0 22 v0 rfl rfl) h0
  refine (exactTreeOf_walk A0 c0 ps W rr0 f0 n0).mono fun e W' ⟨he, hw⟩ => ?_
  subst he
  exact ⟨_, rfl, law_post (tb := 4) laidOut (by kernel_rfl) rfl hW' Try.underlying4 (by kernel_rfl) (fun gs' e => by subst e; rfl) hw⟩

theorem exactTreeOf_holds : Rows.FnExactTreeOfSaid :=
  OpenClaim.holds_of_wide 3 Try.f3 rfl rfl rfl rfl rfl rfl rfl ⟨rfl, rfl, rfl, rfl, rfl⟩ rfl rfl rfl rfl rfl (by kernel_rfl) Try.func3 (by kernel_rfl)
    (of_decide_eq_true (by kernel_rfl)) (by unfold Func.isWrapper; rw [if_neg (of_decide_eq_false (by kernel_rfl))]; exact ⟨rfl, rfl⟩)
    (fun os started H enc _ => exactTreeOf_lifted os started H enc)
end Go.Proofs.Ytcjbjfhndjpmcaa
