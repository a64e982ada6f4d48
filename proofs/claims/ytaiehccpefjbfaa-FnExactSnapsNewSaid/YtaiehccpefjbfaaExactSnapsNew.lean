/-
  FnExactSnapsNew answers true. It has no argument. No condition.
-/
import Derived.Test.YtaiehccpefjbfaaSnNew
import Derived.Test.YtaiehccpefjbfaaPost
namespace Go.Proofs.Ytaiehccpefjbfaa
open Go.ChangeShapes Go.WideShapes Go.ChangeAt Go.RowKit

set_option maxHeartbeats 4000000 in
theorem exactSnapsNew_walk (w : World) : Calls Try.prog 8 #[] w fun e w' => e = .returned (.bool true) ∧ Below w.heap.size w w' := by
  go_enter Try.func8, Try.ntmps8
  go_wp2_with fail
  refine (spec_SnapsNew _).mono ?_
  rintro e w1 ⟨g1, rfl, hg1, hp1, hb1⟩
  have hr1 := Row5.lit w1 g1
  have ha1 : Below w1.heap.size w1 (w1.alloc (.cells #[.slice (some ⟨g1, 0, none⟩) 1 1, .int .i64 1, .int .i64 1, .int .i64 2, .slice none 0 0] 68)) := (Below.refl _ _).alloc (Nat.le_refl _) _
  have R1 := hid hr1
  have P1 := hid (hp1.below ha1)
  have B1 := hid (hb1.trans (ha1.mono hb1.size))
  have L1 := hid hp1.lt
  have S1 : Hid ((w1.alloc (.cells #[.slice (some ⟨g1, 0, none⟩) 1 1, .int .i64 1, .int .i64 1, .int .i64 2, .slice none 0 0] 68)).heap.size = w1.heap.size + 1) := by simp [Hid]
  clear hr1 hp1 hb1 ha1
  go_wp2_with fail
  generalize hq1 : w1.alloc (.cells #[.slice (some ⟨g1, 0, none⟩) 1 1, .int .i64 1, .int .i64 1, .int .i64 2, .slice none 0 0] 68) = v1 at *
  refine (impl_SnapsNew _).mono ?_
  rintro e w2 ⟨g2, rfl, hg2, hp2, hb2⟩
  have hr2 := Row5.lit w2 g2
  have ha2 : Below w2.heap.size w2 (w2.alloc (.cells #[.slice (some ⟨g2, 0, none⟩) 1 1, .int .i64 1, .int .i64 1, .int .i64 2, .slice none 0 0] 68)) := (Below.refl _ _).alloc (Nat.le_refl _) _
  have R2 := hid hr2
  have P2 := hid (hp2.below ha2)
  have B2 := hid (B1.out.trans ((hb2.trans (ha2.mono hb2.size)).mono B1.out.size))
  have R12 := hid ((R1.out.below hb2).below ha2)
  have P12 := hid ((P1.out.below hb2).below ha2)
  have L2 := hid hp2.lt
  clear hr2 hp2 hb2 ha2
  have a0 := R12.out.c0
  have a1 := R12.out.c1
  have a2 := R12.out.c2
  have a3 := R12.out.c3
  have a4 := R12.out.c4
  have b0 := R2.out.c0
  have b1 := R2.out.c1
  have b2 := R2.out.c2
  have b3 := R2.out.c3
  have b4 := R2.out.c4
  go_wp2_with fail
  generalize hq2 : w2.alloc (.cells #[.slice (some ⟨g2, 0, none⟩) 1 1, .int .i64 1, .int .i64 1, .int .i64 2, .slice none 0 0] 68) = v2 at *
  refine (eqSnaps_new g2 g1 _ P2.out P12.out).mono ?_
  rintro e w3 ⟨rfl, hb3⟩
  have R13 := hid (R12.out.below hb3)
  have P13 := hid (P12.out.below hb3)
  have R23 := hid (R2.out.below hb3)
  have P23 := hid (P2.out.below hb3)
  have B3 := hid (B2.out.trans (hb3.mono B2.out.size))
  clear hb3 a0 a1 a2 a3 a4 b0 b1 b2 b3 b4
  have b0 := R23.out.c0
  have b1 := R23.out.c1
  have b2 := R23.out.c2
  have b3 := R23.out.c3
  have b4 := R23.out.c4
  go_wp2_with fail
  refine (markSnaps_new g2 _ P23.out).mono ?_
  rintro e w4 ⟨rfl, hp4, hg4⟩
  have HNE : Hid (w.heap.size ≤ g2 ∧ g1 ≠ g2 ∧ w1.heap.size ≠ g2 ∧ w2.heap.size ≠ g2) := by
    have h1 := B1.out.size
    have h2 := L1.out
    have h3 := L2.out
    have h4 := S1.out
    refine ⟨by omega, by omega, by omega, by omega⟩
  have P24 := hid hp4
  have P14 := hid (P13.out.grown hg4 HNE.out.2.1)
  have R14 := hid (R13.out.grown hg4 HNE.out.2.2.1)
  have R24 := hid (R23.out.grown hg4 HNE.out.2.2.2)
  have B4 := hid (B3.out.grown hg4 B3.out.size (fun k hk => by injection hk with hk; have := HNE.out.1; omega))
  clear hp4 hg4 b0 b1 b2 b3 b4
  have b0 := R24.out.c0
  have b1 := R24.out.c1
  have b2 := R24.out.c2
  have b3 := R24.out.c3
  have b4 := R24.out.c4
  go_wp2_with fail
  refine (heldSnaps_new g2 _ P24.out).mono ?_
  rintro e w5 ⟨rfl, hb5⟩
  have P25 := hid (P24.out.below hb5)
  have P15 := hid (P14.out.below hb5)
  have R15 := hid (R14.out.below hb5)
  have R25 := hid (R24.out.below hb5)
  have B5 := hid (B4.out.trans (hb5.mono B4.out.size))
  clear hb5 b0 b1 b2 b3 b4
  go_wp2_with fail
  refine (impl_SnapsNew _).mono ?_
  rintro e w6 ⟨g3, rfl, hg3, hp6, hb6⟩
  have hr6 := Row5.lit w6 g3
  have ha6 : Below w6.heap.size w6 (w6.alloc (.cells #[.slice (some ⟨g3, 0, none⟩) 1 1, .int .i64 1, .int .i64 1, .int .i64 2, .slice none 0 0] 68)) := (Below.refl _ _).alloc (Nat.le_refl _) _
  have R6 := hid hr6
  have P6 := hid (hp6.below ha6)
  have B6 := hid (B5.out.trans ((hb6.trans (ha6.mono hb6.size)).mono B5.out.size))
  have R16 := hid ((R15.out.below hb6).below ha6)
  have P16 := hid ((P15.out.below hb6).below ha6)
  have R26 := hid ((R25.out.below hb6).below ha6)
  have P26 := hid ((P25.out.below hb6).below ha6)
  clear hr6 hp6 hb6 ha6
  have a0 := R16.out.c0
  have a1 := R16.out.c1
  have a2 := R16.out.c2
  have a3 := R16.out.c3
  have a4 := R16.out.c4
  have b0 := R6.out.c0
  have b1 := R6.out.c1
  have b2 := R6.out.c2
  have b3 := R6.out.c3
  have b4 := R6.out.c4
  go_wp2_with fail
  generalize hq6 : w6.alloc (.cells #[.slice (some ⟨g3, 0, none⟩) 1 1, .int .i64 1, .int .i64 1, .int .i64 2, .slice none 0 0] 68) = v6 at *
  refine (eqSnaps_new g3 g1 _ P6.out P16.out).mono ?_
  rintro e w7 ⟨rfl, hb7⟩
  have R27 := hid (R26.out.below hb7)
  have P27 := hid (P26.out.below hb7)
  have B7 := hid (B6.out.trans (hb7.mono B6.out.size))
  clear hb7 a0 a1 a2 a3 a4 b0 b1 b2 b3 b4
  have b0 := R27.out.c0
  have b1 := R27.out.c1
  have b2 := R27.out.c2
  have b3 := R27.out.c3
  have b4 := R27.out.c4
  go_wp2_with fail
  refine (heldSnaps_new g2 _ P27.out).mono ?_
  rintro e w8 ⟨rfl, hb8⟩
  have B8 := hid (B7.out.trans (hb8.mono B7.out.size))
  clear hb8 b0 b1 b2 b3 b4
  go_wp2_with fail
  go_ret
  exact ⟨rfl, B8.out⟩

set_option maxRecDepth 100000 in
theorem exactSnapsNew_lifted (os : Os) (started : os.Started) (H : Type) (enc : TypeId × Value → H) :
    ReturnsInHanded {} Try.checked os 8 .any (Rows.fnExactSnapsNewSpec.pre6 enc Try.prog Try.f8 Rows.fnExactSnapsNewRow.domain false) (Rows.fnExactSnapsNewSpec.post enc Try.prog Try.f8 false true false false) := by
  refine returnsInHanded_of_change (C := Try.checked) own started (by kernel_rfl) Try.func8
    (ChangeSpec.witness6 (enc := enc) (C := Try.checked) false ⟨#[], #[], []⟩ 8 (by kernel_rfl) (by kernel_rfl) (by kernel_rfl) (by kernel_rfl)) ?_
  intro W base args ds gs before hval hW _ _
  have hW' := hW
  obtain ⟨p, q, hA0, hV, rfl, hfz, hnd⟩ := hW
  have hA : DataW.TrodAll enc Try.prog W 0 (fun _ => true) true Try.f8.params.toList args.toList ds p := hA0
  rw [Try.params8] at hA hval
  obtain ⟨hargs, rfl, rfl⟩ := trodAll_nil hA
  obtain rfl : args = #[] := by cases args; simp_all
  clear hargs
  refine (exactSnapsNew_walk W).mono fun e W' ⟨he, hw⟩ => ?_
  subst he
  exact ⟨_, rfl, law_post (tb := 4) laidOut (by kernel_rfl) rfl hW' Try.underlying4 (by kernel_rfl) (fun gs' e => by subst e; rfl) hw⟩

theorem exactSnapsNew_holds : Rows.FnExactSnapsNewSaid :=
  OpenClaim.holds_of_wide 8 Try.f8 rfl rfl rfl rfl rfl rfl rfl ⟨rfl, rfl, rfl, rfl, rfl⟩ rfl rfl rfl rfl rfl (by kernel_rfl) Try.func8 (by kernel_rfl)
    (of_decide_eq_true (by kernel_rfl)) (by unfold Func.isWrapper; rw [if_neg (of_decide_eq_false (by kernel_rfl))]; exact ⟨rfl, rfl⟩)
    (fun os started H enc _ => exactSnapsNew_lifted os started H enc)
end Go.Proofs.Ytaiehccpefjbfaa
