/-
  FnExactCount answers true at all bits, and its argument reads as it did. No condition.
-/
import Derived.Test.YtaiehccpefjbfaaCountB
import Derived.Test.YtaiehccpefjbfaaLawKit
import Derived.Test.YtaiehccpefjbfaaPost
import Derived.Test.YtaiehccpefjbfaaOpen
namespace Go.Proofs.Ytaiehccpefjbfaa
open Go.ChangeShapes Go.WideShapes Go.ChangeAt Go.RowKit

set_option maxHeartbeats 4000000 in
theorem exactCount_walk (n : Int) (A : Option Addr) (c : Nat) (xs : List Bool) (w : World) (hr : RB w w.heap.size A xs) (hn : xs.length ≤ maxLen) :
    Calls Try.prog 6 #[.agg #[.int .i64 n, .slice A xs.length c]] w fun e w' => e = .returned (.bool true) ∧ Below w.heap.size w w' := by
  have hb0 : Below w.heap.size w (w.alloc (.cells #[.int .i64 n, .slice A xs.length c] 51)) := (Below.refl _ _).alloc (Nat.le_refl _) _
  have hx0 := Row2.lit w 51 (.int .i64 n) (.slice A xs.length c)
  have HB0 := hid hb0
  have HX := hid hx0
  have HR := hid ((hr.below hb0).more hb0.size)
  have HN := hid hn
  clear hr hn hb0 hx0
  go_enter Try.func6, Try.ntmps6
  go_wp2_with fail
  generalize hg : w.alloc (.cells #[.int .i64 n, .slice A xs.length c] 51) = w0 at *
  refine (szBits_any n A c xs 1048576 _ HN.out (by omega) (by omega)).mono ?_
  rintro e w1 ⟨⟨r, rfl, _, _, hr3⟩, hb1⟩
  have X1 := hid (HX.out.below hb1)
  have HB1 := hid hb1
  have HZ := hid hr3
  clear hr3 hb1
  have x0 := X1.out.c0
  have x1 := X1.out.c1
  by_cases hneg : r < 0
  · go_wp2_with fail
    go_ret
    exact ⟨rfl, HB0.out.trans (HB1.out.mono HB0.out.size)⟩
  have hz := HZ.out (by omega)
  have hps : xs.length ≤ 1048576 := by omega
  go_wp2_with fail
  refine (toBits_any n A c xs _ ((HR.out.below HB1.out).more HB1.out.size) hps).mono ?_
  rintro e w2 ⟨A2, c2, rfl, hp2, hb2⟩
  have X2 := hid (X1.out.below hb2)
  have HB2 := hid (HB1.out.trans (hb2.mono HB1.out.size))
  have HP2 := hid hp2
  clear hp2 hb2 x0 x1
  go_wp2_with fail
  refine (spec_Count n A2 c2 xs _ HP2.out.rb).mono ?_
  obtain ⟨q, hq⟩ : ∃ q, q = bcnt (lenB n xs) (usedF xs) := ⟨_, rfl⟩
  rw [← hq]
  rintro e w3 ⟨rfl, hb3⟩
  have HQ := hid hq
  clear hq
  have X3 := hid (X2.out.below hb3)
  have HB3 := hid (HB2.out.trans (hb3.mono HB2.out.size))
  clear hb3
  have x0 := X3.out.c0
  have x1 := X3.out.c1
  go_wp2_with fail
  refine (toBits_any n A c xs _ ((HR.out.below HB3.out).more HB3.out.size) hps).mono ?_
  rintro e w4 ⟨A4, c4, rfl, hp4, hb4⟩
  have hb5 : Below w4.heap.size w4 (w4.alloc (.cells #[.int .i64 n, .slice A4 xs.length c4] 54)) := (Below.refl _ _).alloc (Nat.le_refl _) _
  have hy5 := Row2.lit w4 54 (.int .i64 n) (.slice A4 xs.length c4)
  have HB4 := hid (HB3.out.trans (hb4.mono HB3.out.size))
  have HB5 := hid (HB4.out.trans (hb5.mono HB4.out.size))
  have X5 := hid ((X3.out.below hb4).below hb5)
  have Y5 := hid hy5
  have HP5 := hid (hp4.below hb5)
  clear hp4 hb4 hb5 hy5 x0 x1
  have hbb : ∀ k : Nat, ((k : Int) != (k : Int)) = false := fun k => by simp
  go_wp2_with fail
  generalize hg5 : w4.alloc (.cells #[.int .i64 n, .slice A4 xs.length c4] 54) = w5 at *
  refine (impl_Count n A4 c4 xs _ HP5.out.rb).mono ?_
  rw [← HQ.out]
  rintro e w6 ⟨rfl, hb6⟩
  have hqq := hbb q
  clear hbb
  have X6 := hid (X5.out.below hb6)
  have Y6 := hid (Y5.out.below hb6)
  have HP6 := hid (HP5.out.below hb6)
  have HB6 := hid (HB5.out.trans (hb6.mono HB5.out.size))
  clear hb6
  have x0 := X6.out.c0
  have x1 := X6.out.c1
  have y0 := Y6.out.c0
  have y1 := Y6.out.c1
  go_wp2_with fail
  go_region_held3 (fun w' => w'.cell? ⟨w.heap.size, 0, none⟩ = some (.int .i64 n) ∧ w'.cell? ⟨w.heap.size, 1, none⟩ = some (.slice A xs.length c) ∧
      w'.cell? ⟨w4.heap.size, 0, none⟩ = some (.int .i64 n) ∧ w'.cell? ⟨w4.heap.size, 1, none⟩ = some (.slice A4 xs.length c4)) (go_keep)
    (first
      | (go_at_call 26; refine (toBits_any n A c xs _ ((HR.out.below HB6.out.drew).more HB6.out.drew.size) hps).mono ?_; rintro e w7 ⟨A7, c7, rfl, hp7, hb7⟩; have X7 := hid ((X6.out.below (Below.refl _ _).drew).below hb7); have Y7 := hid ((Y6.out.below (Below.refl _ _).drew).below hb7); have HP7 := hid hp7; have HQ7 := hid ((HP6.out.below (Below.refl _ _).drew).below hb7); have HB7 := hid (HB6.out.drew.trans (hb7.mono HB6.out.drew.size)); clear hp7 hb7; have x70 := X7.out.c0; have x71 := X7.out.c1; have y70 := Y7.out.c0; have y71 := Y7.out.c1)
      | (go_at_call 28; refine (eqBits_same n A4 c4 xs A7 c7 _ HQ7.out.rb HN.out HP7.out.rb).mono ?_; rintro e w8 ⟨rfl, hb8⟩; have X8 := hid (X7.out.below hb8); have Y8 := hid (Y7.out.below hb8); have HB8 := hid (HB7.out.trans (hb8.mono HB7.out.size)); clear hb8; have x80 := X8.out.c0; have x81 := X8.out.c1; have y80 := Y8.out.c0; have y81 := Y8.out.c1)
      | (go_at_call 28; refine (eqBits_same n A4 c4 xs A7 c7 _ (HQ7.out.below (Below.refl _ _).drew).rb HN.out (HP7.out.below (Below.refl _ _).drew).rb).mono ?_; rintro e w8 ⟨rfl, hb8⟩; have X8 := hid ((X7.out.below (Below.refl _ _).drew).below hb8); have Y8 := hid ((Y7.out.below (Below.refl _ _).drew).below hb8); have HB8 := hid (HB7.out.drew.trans (hb8.mono HB7.out.size)); clear hb8; have x80 := X8.out.c0; have x81 := X8.out.c1; have y80 := Y8.out.c0; have y81 := Y8.out.c1))
  go_wp2_with fail
  go_ret
  exact ⟨rfl, HB0.out.trans (HB8.out.mono HB0.out.size)⟩

set_option maxRecDepth 100000 in
theorem exactCount_lifted (os : Os) (started : os.Started) (H : Type) (enc : TypeId × Value → H) :
    ReturnsInHanded {} Try.checked os 6 .any (Rows.fnExactCountSpec.pre6 enc Try.prog Try.f6 Rows.fnExactCountRow.domain false) (Rows.fnExactCountSpec.post enc Try.prog Try.f6 false true false false) := by
  refine returnsInHanded_of_change (C := Try.checked) own started (by kernel_rfl) Try.func6
    (ChangeSpec.witness6 (enc := enc) (C := Try.checked) false ⟨#[], #[.agg #[.int .i64 0, .slice none 0 0]], []⟩ 8 (by kernel_rfl) (by kernel_rfl) (by kernel_rfl) (by kernel_rfl)) ?_
  intro W base args ds gs before hval hW _ _
  have hW' := hW
  obtain ⟨p, q, hA0, hV, rfl, hfz, hnd⟩ := hW
  have hA : DataW.TrodAll enc Try.prog W 0 (fun _ => true) true Try.f6.params.toList args.toList ds p := hA0
  rw [Try.params6] at hA hval
  obtain ⟨v0, vs0, d0, ds0, p0, q0, hargs, rfl, rfl, h0, r0⟩ := trodAll_cons hA
  obtain ⟨rfl, rfl, rfl⟩ := trodAll_nil r0
  obtain rfl : args = #[v0] := by cases args; simp_all
  clear hargs
  obtain ⟨n0, A0, c0, xs0, rfl, rr0, n1⟩ := open_bits (hval 0 51 v0 rfl rfl) h0
  refine (exactCount_walk n0 A0 c0 xs0 W rr0 n1).mono fun e W' ⟨he, hw⟩ => ?_
  subst he
  exact ⟨_, rfl, law_post (tb := 4) laidOut (by kernel_rfl) rfl hW' Try.underlying4 (by kernel_rfl) (fun gs' e => by subst e; rfl) hw⟩

theorem exactCount_holds : Rows.FnExactCountSaid :=
  OpenClaim.holds_of_wide 6 Try.f6 rfl rfl rfl rfl rfl rfl rfl ⟨rfl, rfl, rfl, rfl, rfl⟩ rfl rfl rfl rfl rfl (by kernel_rfl) Try.func6 (by kernel_rfl)
    (of_decide_eq_true (by kernel_rfl)) (by unfold Func.isWrapper; rw [if_neg (of_decide_eq_false (by kernel_rfl))]; exact ⟨rfl, rfl⟩)
    (fun os started H enc _ => exactCount_lifted os started H enc)
end Go.Proofs.Ytaiehccpefjbfaa
