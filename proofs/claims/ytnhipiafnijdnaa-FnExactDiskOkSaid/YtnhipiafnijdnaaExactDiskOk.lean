/-
  FnExactDiskOk answers true at all disks, and its argument reads as it did. No condition.
-/
import Derived.Test.YtnhipiafnijdnaaOpenDsk
import Derived.Test.YtnhipiafnijdnaaDskI3
import Derived.Test.YtnhipiafnijdnaaDskLaw
import Derived.Test.YtnhipiafnijdnaaLawKit
import Derived.Test.YtnhipiafnijdnaaPost
import Derived.Test.YtnhipiafnijdnaaOpen
namespace Go.Proofs.Ytnhipiafnijdnaa
open Go.ChangeShapes Go.WideShapes Go.ChangeAt Go.RowKit

set_option maxHeartbeats 16000000 in
set_option maxRecDepth 100000 in
theorem exactDiskOk_walk (V : DV) (D : DK) (w : World) (hr : RK w w.heap.size V D) (hf : FitsK D) (hn : LenK D maxLen) :
    Calls Try.prog 3 #[.agg #[.slice V.A D.live.length V.c, .slice V.K D.safe.length V.d, .slice V.O D.ops.length V.o]] w fun e w' => e = .returned (.bool true) ∧ Below w.heap.size w w' := by
  have hb0 : Below w.heap.size w (w.alloc (.cells #[.slice V.A D.live.length V.c, .slice V.K D.safe.length V.d, .slice V.O D.ops.length V.o] 25)) := (Below.refl _ _).alloc (Nat.le_refl _) _
  have hx0 := Row3.lit w 25 (.slice V.A D.live.length V.c) (.slice V.K D.safe.length V.d) (.slice V.O D.ops.length V.o)
  have HB0 := hid hb0
  have X := hid hx0
  have HR := hid ((hr.below hb0).more hb0.size)
  have HF := hid hf
  have HN := hid hn
  clear hr hf hn hb0 hx0
  go_enter Try.func3, Try.ntmps3
  go_wp2_with fail
  generalize hgq : w.alloc (.cells #[.slice V.A D.live.length V.c, .slice V.K D.safe.length V.d, .slice V.O D.ops.length V.o] 25) = w0 at *
  clear hgq
  refine (szDisk_any V D 1048576 _ HR.out HF.out HN.out (by omega) (by omega)).mono ?_
  rintro e w1 ⟨r, rfl, _, _, hr3, hb⟩
  have C0_1 := hid (hb)
  have hs1 : w0.heap.size ≤ w1.heap.size := hb.size
  have HZ := hid hr3
  clear hr3 hb
  by_cases hneg : r < 0
  · have b0_0 := Row3.c0 (X.out.below C0_1.out)
    go_wp2_with fail
    go_ret
    exact ⟨rfl, HB0.out.trans (C0_1.out.mono HB0.out.size)⟩
  have HL := hid (HZ.out (by omega)).1
  have HS := hid (HZ.out (by omega)).2
  have HL2 := hid (HL.out.more (by decide : 1048576 ≤ 2000000))
  have HS2 := hid (SmallK.more HS.out (by decide : 1048576 ≤ 4000000))
  have b0_0 := Row3.c0 (X.out.below C0_1.out)
  have b0_1 := Row3.c1 (X.out.below C0_1.out)
  have b0_2 := Row3.c2 (X.out.below C0_1.out)
  go_wp2_with fail
  clear b0_0 b0_1 b0_2
  refine (toDisk_any V D _ ((HR.out.below C0_1.out).more C0_1.out.size) HL.out).mono ?_
  rintro e w2 ⟨V2, rfl, ho, hb⟩
  have C0_2 := hid (C0_1.out.trans (hb.mono C0_1.out.size))
  have hs2 : w1.heap.size ≤ w2.heap.size := hb.size
  have P2 := hid ho
  clear ho hb
  have b0_0 := Row3.c0 (X.out.below C0_2.out)
  have b0_1 := Row3.c1 (X.out.below C0_2.out)
  have b0_2 := Row3.c2 (X.out.below C0_2.out)
  go_wp2_with fail
  clear b0_0 b0_1 b0_2
  refine (spec_DiskOk V2 D _ P2.out.rk (HL2.out.lim) HS2.out).mono ?_
  rintro e w3 ⟨rfl, hb⟩
  have C0_3 := hid (C0_2.out.trans (hb.mono C0_2.out.size))
  have C2_3 := hid (hb)
  have hs3 : w2.heap.size ≤ w3.heap.size := hb.size
  clear hb
  have b0_0 := Row3.c0 (X.out.below C0_3.out)
  have b0_1 := Row3.c1 (X.out.below C0_3.out)
  have b0_2 := Row3.c2 (X.out.below C0_3.out)
  go_wp2_with fail
  clear b0_0 b0_1 b0_2
  refine (toDisk_any V D _ ((HR.out.below C0_3.out).more C0_3.out.size) HL.out).mono ?_
  rintro e w4 ⟨V4, rfl, ho, hb⟩
  have C0_4 := hid (C0_3.out.trans (hb.mono C0_3.out.size))
  have C2_4 := hid (C2_3.out.trans (hb.mono C2_3.out.size))
  have hs4 : w3.heap.size ≤ w4.heap.size := hb.size
  have P4 := hid ho
  clear ho hb
  have hbq : Below w4.heap.size w4 (w4.alloc (.cells #[.slice V4.A D.live.length V4.c, .slice V4.K D.safe.length V4.d, .slice V4.O D.ops.length V4.o] 31)) := (Below.refl _ _).alloc (Nat.le_refl _) _
  have hyq := Row3.lit w4 31 (.slice V4.A D.live.length V4.c) (.slice V4.K D.safe.length V4.d) (.slice V4.O D.ops.length V4.o)
  have b0_0 := Row3.c0 (X.out.below C0_4.out)
  have b0_1 := Row3.c1 (X.out.below C0_4.out)
  have b0_2 := Row3.c2 (X.out.below C0_4.out)
  have d0_0 := Row3.c0 (Row3.below (X.out.below C0_4.out) hbq)
  have d0_1 := Row3.c1 (Row3.below (X.out.below C0_4.out) hbq)
  have d0_2 := Row3.c2 (Row3.below (X.out.below C0_4.out) hbq)
  go_wp2_with fail
  clear b0_0 b0_1 b0_2
  clear d0_0 d0_1 d0_2
  generalize hgq : w4.alloc (.cells #[.slice V4.A D.live.length V4.c, .slice V4.K D.safe.length V4.d, .slice V4.O D.ops.length V4.o] 31) = w5 at *
  clear hgq
  have C0_5 := hid (C0_4.out.trans (hbq.mono C0_4.out.size))
  have C2_5 := hid (C2_4.out.trans (hbq.mono C2_4.out.size))
  have C4_5 := hid (hbq)
  have hs5 : w4.heap.size ≤ w5.heap.size := hbq.size
  have Y := hid hyq
  clear hyq hbq
  have hbb : (diskD D != diskD D) = false := by simp
  refine (impl_DiskOk V4 D _ (P4.out.below C4_5.out).rk (P4.out.below C4_5.out).vs (HL2.out.lim) HS2.out).mono ?_
  rintro e w6 ⟨rfl, hb⟩
  have C0_6 := hid (C0_5.out.trans (hb.mono C0_5.out.size))
  have C2_6 := hid (C2_5.out.trans (hb.mono C2_5.out.size))
  have C4_6 := hid (C4_5.out.trans (hb.mono C4_5.out.size))
  have C5_6 := hid (hb)
  have hs6 : w5.heap.size ≤ w6.heap.size := hb.size
  clear hb
  have X6 := hid (X.out.below C0_6.out)
  have Y6 := hid (Y.out.below C5_6.out)
  have HB6 := hid C0_6.out
  have HP6 := hid (P4.out.below C4_6.out)
  have c1 : ∀ dq os, Calls Try.prog 17 #[.agg #[.slice V.A D.live.length V.c, .slice V.K D.safe.length V.d, .slice V.O D.ops.length V.o]] (Go.Sort.grow (redrawn w6 dq) os) (MadeK (Go.Sort.grow (redrawn w6 dq) os) (Go.Sort.grow (redrawn w6 dq) os).heap.size D) := fun dq os => toDisk_any V D _ ((HR.out.below (HB6.out.trans ((below_regrown w6 dq os).mono HB6.out.size))).more (HB6.out.trans ((below_regrown w6 dq os).mono HB6.out.size)).size) HL.out
  have b0_0 := Row3.c0 (X.out.below C0_6.out)
  have b0_1 := Row3.c1 (X.out.below C0_6.out)
  have b0_2 := Row3.c2 (X.out.below C0_6.out)
  have b1_0 := Row3.c0 (Y.out.below C5_6.out)
  have b1_1 := Row3.c1 (Y.out.below C5_6.out)
  have b1_2 := Row3.c2 (Y.out.below C5_6.out)
  go_wp2_with fail
  go_region_held3 (fun w' => w'.cell? ⟨w.heap.size, 0, none⟩ = some (.slice V.A D.live.length V.c) ∧ w'.cell? ⟨w.heap.size, 1, none⟩ = some (.slice V.K D.safe.length V.d) ∧ w'.cell? ⟨w.heap.size, 2, none⟩ = some (.slice V.O D.ops.length V.o) ∧
      w'.cell? ⟨w4.heap.size, 0, none⟩ = some (.slice V4.A D.live.length V4.c) ∧ w'.cell? ⟨w4.heap.size, 1, none⟩ = some (.slice V4.K D.safe.length V4.d) ∧ w'.cell? ⟨w4.heap.size, 2, none⟩ = some (.slice V4.O D.ops.length V4.o)) (go_keep)
    (first
      | (go_at_call 17; refine (toDisk_any V D _ ((HR.out.below HB6.out.drew).more HB6.out.drew.size) HL.out).mono ?_; rintro e w106 ⟨Vq, rfl, hp7, hb7⟩; have X7 := hid ((X6.out.below (Below.refl _ _).drew).below hb7); have Y7 := hid ((Y6.out.below (Below.refl _ _).drew).below hb7); have HP7 := hid hp7; have HQ7 := hid ((HP6.out.below (Below.refl _ _).drew).below hb7); have hbr := (Below.refl w6.heap.size w6).drew.trans hb7; have HB7 := hid hbr; clear hp7 hb7 hbr; have x70 := X7.out.c0; have x71 := X7.out.c1; have x72 := X7.out.c2; have y70 := Y7.out.c0; have y71 := Y7.out.c1; have y72 := Y7.out.c2)
      | (go_at_call 19; refine (eqDisk_same V4 Vq D _ HQ7.out.rk HP7.out.rk HN.out).mono ?_; rintro e w7 ⟨rfl, hb8⟩; have X8 := hid (X7.out.below hb8); have Y8 := hid (Y7.out.below hb8); have HB8 := hid (HB7.out.trans (hb8.mono HB7.out.size)); clear hb8; have x80 := X8.out.c0; have x81 := X8.out.c1; have x82 := X8.out.c2; have y80 := Y8.out.c0; have y81 := Y8.out.c1; have y82 := Y8.out.c2)
      | (go_at_call 19; refine (eqDisk_same V4 Vq D _ (HQ7.out.below (Below.refl _ _).drew).rk (HP7.out.below (Below.refl _ _).drew).rk HN.out).mono ?_; rintro e w7 ⟨rfl, hb8⟩; have X8 := hid ((X7.out.below (Below.refl _ _).drew).below hb8); have Y8 := hid ((Y7.out.below (Below.refl _ _).drew).below hb8); have HB8 := hid (HB7.out.drew.trans (hb8.mono HB7.out.size)); clear hb8; have x80 := X8.out.c0; have x81 := X8.out.c1; have x82 := X8.out.c2; have y80 := Y8.out.c0; have y81 := Y8.out.c1; have y82 := Y8.out.c2))
  have hbr := HB8.out
  clear x70 x71 x72 y70 y71 y72 x80 x81 x82 y80 y81 y82 c1
  clear b0_0 b0_1 b0_2 b1_0 b1_1 b1_2
  have C0_7 := hid (C0_6.out.trans (hbr.mono C0_6.out.size))
  have C2_7 := hid (C2_6.out.trans (hbr.mono C2_6.out.size))
  have C4_7 := hid (C4_6.out.trans (hbr.mono C4_6.out.size))
  have C5_7 := hid (C5_6.out.trans (hbr.mono C5_6.out.size))
  have hs7 : w6.heap.size ≤ w7.heap.size := hbr.size
  clear hbr
  have b0_0 := Row3.c0 (X.out.below C0_7.out)
  have b0_1 := Row3.c1 (X.out.below C0_7.out)
  have b0_2 := Row3.c2 (X.out.below C0_7.out)
  have b1_0 := Row3.c0 (Y.out.below C5_7.out)
  have b1_1 := Row3.c1 (Y.out.below C5_7.out)
  have b1_2 := Row3.c2 (Y.out.below C5_7.out)
  go_wp2_with fail
  go_ret
  exact ⟨rfl, HB0.out.trans (C0_7.out.mono HB0.out.size)⟩

set_option maxRecDepth 100000 in
theorem exactDiskOk_lifted (os : Os) (started : os.Started) (H : Type) (enc : TypeId × Value → H) :
    ReturnsInHanded {} Try.checked os 3 .any (Rows.fnExactDiskOkSpec.pre6 enc Try.prog Try.f3 Rows.fnExactDiskOkRow.domain false) (Rows.fnExactDiskOkSpec.post enc Try.prog Try.f3 false true false false) := by
  refine returnsInHanded_of_change (C := Try.checked) own started (by kernel_rfl) Try.func3
    (ChangeSpec.witness6 (enc := enc) (C := Try.checked) false ⟨#[], #[.agg #[.slice none 0 0, .slice none 0 0, .slice none 0 0]], []⟩ 8 (by kernel_rfl) (by kernel_rfl) (by kernel_rfl) (by kernel_rfl)) ?_
  intro W base args ds gs before hval hW _ _
  have hW' := hW
  obtain ⟨p, q, hA0, hV, rfl, hfz, hnd⟩ := hW
  have hA : DataW.TrodAll enc Try.prog W 0 (fun _ => true) true Try.f3.params.toList args.toList ds p := hA0
  rw [Try.params3] at hA hval
  obtain ⟨v0, vs0, d0, ds0, p0, q0, hargs, rfl, rfl, h0, r0⟩ := trodAll_cons hA
  obtain ⟨rfl, rfl, rfl⟩ := trodAll_nil r0
  obtain rfl : args = #[v0] := by cases args; simp_all
  clear hargs
  obtain ⟨V0, D, rfl, rr0, f0, n0⟩ := open_disk (hval 0 25 v0 rfl rfl) h0
  refine (exactDiskOk_walk V0 D W rr0 f0 n0).mono fun e W' ⟨he, hw⟩ => ?_
  subst he
  exact ⟨_, rfl, law_post (tb := 4) laidOut (by kernel_rfl) rfl hW' Try.underlying4 (by kernel_rfl) (fun gs' e => by subst e; rfl) hw⟩

theorem exactDiskOk_holds : Rows.FnExactDiskOkSaid :=
  OpenClaim.holds_of_wide 3 Try.f3 rfl rfl rfl rfl rfl rfl rfl ⟨rfl, rfl, rfl, rfl, rfl⟩ rfl rfl rfl rfl rfl (by kernel_rfl) Try.func3 (by kernel_rfl)
    (of_decide_eq_true (by kernel_rfl)) (by unfold Func.isWrapper; rw [if_neg (of_decide_eq_false (by kernel_rfl))]; exact ⟨rfl, rfl⟩)
    (fun os started H enc _ => exactDiskOk_lifted os started H enc)
end Go.Proofs.Ytnhipiafnijdnaa
