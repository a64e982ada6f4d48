/-
  FnExactDo answers true at all disks and ops, and its arguments read as they did. No condition.
-/
import Derived.Test.YtaiehccpefjbfaaOpenDsk
import Derived.Test.YtaiehccpefjbfaaDskD
import Derived.Test.YtaiehccpefjbfaaDskLaw
import Derived.Test.YtaiehccpefjbfaaLawKit
import Derived.Test.YtaiehccpefjbfaaPost
import Derived.Test.YtaiehccpefjbfaaOpen
namespace Go.Proofs.Ytaiehccpefjbfaa
open Go.ChangeShapes Go.WideShapes Go.ChangeAt Go.RowKit

set_option maxHeartbeats 16000000 in
set_option maxRecDepth 100000 in
theorem exactDo_walk (V : DV) (D : DK) (x : DD) (w : World) (hr : RK w w.heap.size V D) (hf : FitsK D) (hn : LenK D maxLen) (hx : SmallX x maxLen) :
    Calls Try.prog 3 #[.agg #[.slice V.A D.live.length V.c, .slice V.K D.safe.length V.d, .slice V.O D.ops.length V.o], .agg #[.int .i64 x.1, .string x.2.1, .string x.2.2.1, .string x.2.2.2]] w fun e w' => e = .returned (.bool true) ∧ Below w.heap.size w w' := by
  have HLR := hid (doR_len D x)
  have hb0 : Below w.heap.size w ((w.alloc (.cells #[.slice V.A D.live.length V.c, .slice V.K D.safe.length V.d, .slice V.O D.ops.length V.o] 25)).alloc (.cells #[.int .i64 x.1, .string x.2.1, .string x.2.2.1, .string x.2.2.2] 27)) := ((Below.refl _ _).alloc (Nat.le_refl _) _).alloc (by simp) _
  have hx0 := (Row3.lit w 25 (.slice V.A D.live.length V.c) (.slice V.K D.safe.length V.d) (.slice V.O D.ops.length V.o)).below ((Below.refl _ _).alloc (Nat.le_refl _) (.cells #[.int .i64 x.1, .string x.2.1, .string x.2.2.1, .string x.2.2.2] 27))
  have hh0 := Opc.lit (w.alloc (.cells #[.slice V.A D.live.length V.c, .slice V.K D.safe.length V.d, .slice V.O D.ops.length V.o] 25)) x 27
  rw [World.size_alloc] at hh0
  have HB0 := hid hb0
  have X := hid hx0
  have XO := hid hh0
  have HR := hid ((hr.below hb0).more hb0.size)
  have HF := hid hf
  have HN := hid hn
  have HXM := hid hx
  clear hr hf hn hb0 hx0 hh0 hx
  go_enter Try.func3, Try.ntmps3
  go_wp2_with fail
  generalize hgq : (w.alloc (.cells #[.slice V.A D.live.length V.c, .slice V.K D.safe.length V.d, .slice V.O D.ops.length V.o] 25)).alloc (.cells #[.int .i64 x.1, .string x.2.1, .string x.2.2.1, .string x.2.2.2] 27) = w0 at *
  clear hgq
  refine (szDisk_any V D 1048576 _ HR.out HF.out HN.out (by omega) (by omega)).mono ?_
  rintro e w1 ⟨r, rfl, _, hru, hr3, hb⟩
  have C0_1 := hid (hb)
  have hs1 : w0.heap.size ≤ w1.heap.size := hb.size
  have HZ := hid hr3
  have HRU := hid hru
  clear hr3 hb hru
  by_cases hnegr : r < 0
  · have b0_0 := Row3.c0 (X.out.below C0_1.out)
    have b0_1 := Row3.c1 (X.out.below C0_1.out)
    have b0_2 := Row3.c2 (X.out.below C0_1.out)
    go_wp2_with fail
    go_ret
    exact ⟨rfl, HB0.out.trans (C0_1.out.mono HB0.out.size)⟩
  have HL := hid (HZ.out (by omega)).1
  have HS := hid (HZ.out (by omega)).2
  have HL2 := hid (HL.out.more (by decide : 1048576 ≤ 2000000))
  have HS2 := hid (SmallK.more HS.out (by decide : 1048576 ≤ 4000000))
  obtain ⟨_, oo0, oo1, oo2, oo3⟩ := (XO.out.below C0_1.out)
  have b0_0 := Row3.c0 (X.out.below C0_1.out)
  have b0_1 := Row3.c1 (X.out.below C0_1.out)
  have b0_2 := Row3.c2 (X.out.below C0_1.out)
  go_wp2_with fail
  clear b0_0 b0_1 b0_2
  refine (szDOp_any x r _ (by omega) HRU.out HXM.out).mono ?_
  rintro e w2 ⟨r2, rfl, _, _, hr3, hb⟩
  have C0_2 := hid (C0_1.out.trans (hb.mono C0_1.out.size))
  have hs2 : w1.heap.size ≤ w2.heap.size := hb.size
  have HY := hid hr3
  clear hb hr3 oo0 oo1 oo2 oo3
  by_cases hnegr2 : r2 < 0
  · have b0_0 := Row3.c0 (X.out.below C0_2.out)
    have b0_1 := Row3.c1 (X.out.below C0_2.out)
    have b0_2 := Row3.c2 (X.out.below C0_2.out)
    go_wp2_with fail
    go_ret
    exact ⟨rfl, HB0.out.trans (C0_2.out.mono HB0.out.size)⟩
  have HXS : Hid (SmallX x 4000000) := by
    have h1 := HY.out (by omega)
    have h2 := HRU.out
    refine ⟨?_, ?_, ?_⟩ <;> omega
  have b0_0 := Row3.c0 (X.out.below C0_2.out)
  have b0_1 := Row3.c1 (X.out.below C0_2.out)
  have b0_2 := Row3.c2 (X.out.below C0_2.out)
  go_wp2_with fail
  clear b0_0 b0_1 b0_2
  have XK := hid (X.out.below C0_2.out)
  have XOK := hid (XO.out.below C0_2.out)
  have HRF : Hid (∀ W, Below w2.heap.size w2 W → RK W W.heap.size V D) := fun W hb => (((HR.out.below C0_2.out).more C0_2.out.size).below hb).more hb.size
  go_cut [6, 7] from 26 to 33 (fun sg sk wc => ∃ (gq : Nat) (V3 : DV), sg = .pointer (some ⟨gq, 0, none⟩) ∧ sk = .int .i64 (doC D x) ∧ Hid (Row3 wc gq 33 (.slice V3.A (doR D x).live.length V3.c) (.slice V3.K (doR D x).safe.length V3.d) (.slice V3.O (doR D x).ops.length V3.o)) ∧ Hid (OwnK wc w2.heap.size V3 (doR D x)) ∧ Hid (w2.heap.size ≤ gq) ∧ Hid (Below w2.heap.size w2 wc))
  case first =>
    have LA := hid (XK.out.lt)
    have LB := hid (XOK.out.1)
    have tk1 : Hid (1 = 1) := rfl
    have tk2 : Hid (2 = 2) := rfl
    have tk3 : Hid (3 = 3) := rfl
    have y00 := XK.out.c0
    have y01 := XK.out.c1
    have y02 := XK.out.c2
    obtain ⟨_, y0o0, y0o1, y0o2, y0o3⟩ := XOK.out
    go_region_held3 (fun w' => w'.cell? ⟨w.heap.size, 0, none⟩ = some (.slice V.A D.live.length V.c) ∧ w'.cell? ⟨w.heap.size, 1, none⟩ = some (.slice V.K D.safe.length V.d) ∧ w'.cell? ⟨w.heap.size, 2, none⟩ = some (.slice V.O D.ops.length V.o) ∧ w'.cell? ⟨w.heap.size + 1, 0, none⟩ = some (.int .i64 x.1) ∧ w'.cell? ⟨w.heap.size + 1, 1, none⟩ = some (.string x.2.1) ∧ w'.cell? ⟨w.heap.size + 1, 2, none⟩ = some (.string x.2.2.1) ∧ w'.cell? ⟨w.heap.size + 1, 3, none⟩ = some (.string x.2.2.2)) (go_keep)
      (first
        | (clear tk1; go_at_call 13; refine (toDisk_any V D _ (by first | exact HRF.out _ (Below.refl w2.heap.size w2) | exact HRF.out _ (Below.refl w2.heap.size w2).drew | exact HRF.out _ ((Below.refl w2.heap.size w2).alloc (Nat.le_refl _) _) | exact HRF.out _ ((Below.refl w2.heap.size w2).drew.alloc (Nat.le_refl _) _) | exact HRF.out _ ((Below.refl w2.heap.size w2).alloc (Nat.le_refl _) _).drew) HL.out).mono ?_; rintro e wa ⟨Va, rfl, hp, hb⟩; have HBa : Hid (Below w2.heap.size w2 wa) := (by first | exact (Below.refl w2.heap.size w2).trans (hb.mono (Below.refl w2.heap.size w2).size) | exact (Below.refl w2.heap.size w2).drew.trans (hb.mono (Below.refl w2.heap.size w2).drew.size) | exact ((Below.refl w2.heap.size w2).alloc (Nat.le_refl _) _).trans (hb.mono ((Below.refl w2.heap.size w2).alloc (Nat.le_refl _) _).size) | exact ((Below.refl w2.heap.size w2).drew.alloc (Nat.le_refl _) _).trans (hb.mono ((Below.refl w2.heap.size w2).drew.alloc (Nat.le_refl _) _).size) | exact ((Below.refl w2.heap.size w2).alloc (Nat.le_refl _) _).drew.trans (hb.mono ((Below.refl w2.heap.size w2).alloc (Nat.le_refl _) _).drew.size)); have HPa := hid hp; have ya0 := (XK.out.below HBa.out).c0; have ya1 := (XK.out.below HBa.out).c1; have ya2 := (XK.out.below HBa.out).c2; obtain ⟨_, yao0, yao1, yao2, yao3⟩ := XOK.out.below HBa.out; (try (have ZBa : Hid (Row3 wa w2.heap.size 33 (.slice none 0 0) (.slice none 0 0) (.slice none 0 0)) := (by first | exact (Row3.lit w2 33 (.slice none 0 0) (.slice none 0 0) (.slice none 0 0)).below hb | exact (Row3.lit w2 33 (.slice none 0 0) (.slice none 0 0) (.slice none 0 0)).below ((Below.refl _ _).drew.trans hb) | exact (Row3.lit w2.drew 33 (.slice none 0 0) (.slice none 0 0) (.slice none 0 0)).below hb | exact (Row3.lit w2.drew 33 (.slice none 0 0) (.slice none 0 0) (.slice none 0 0)).below ((Below.refl _ _).drew.trans hb)))); clear hp hb)
        | (clear tk2; go_at_call 14; refine (toDOp_any x _).mono ?_; rintro e wb ⟨rfl, hb⟩; have HBab : Hid (Below wa.heap.size wa wb) := (by first | exact (Below.refl wa.heap.size wa).trans (hb.mono (Below.refl wa.heap.size wa).size) | exact (Below.refl wa.heap.size wa).drew.trans (hb.mono (Below.refl wa.heap.size wa).drew.size) | exact ((Below.refl wa.heap.size wa).alloc (Nat.le_refl _) _).trans (hb.mono ((Below.refl wa.heap.size wa).alloc (Nat.le_refl _) _).size) | exact ((Below.refl wa.heap.size wa).drew.alloc (Nat.le_refl _) _).trans (hb.mono ((Below.refl wa.heap.size wa).drew.alloc (Nat.le_refl _) _).size) | exact ((Below.refl wa.heap.size wa).alloc (Nat.le_refl _) _).drew.trans (hb.mono ((Below.refl wa.heap.size wa).alloc (Nat.le_refl _) _).drew.size)); have HBb := hid (HBa.out.trans (HBab.out.mono HBa.out.size)); have HPb := hid (HPa.out.below HBab.out); have yb0 := (XK.out.below HBb.out).c0; have yb1 := (XK.out.below HBb.out).c1; have yb2 := (XK.out.below HBb.out).c2; obtain ⟨_, ybo0, ybo1, ybo2, ybo3⟩ := XOK.out.below HBb.out; (try (have ZBb := hid (ZBa.out.below HBab.out))); (try (have ZBb : Hid (Row3 wb wa.heap.size 33 (.slice none 0 0) (.slice none 0 0) (.slice none 0 0)) := (by first | exact (Row3.lit wa 33 (.slice none 0 0) (.slice none 0 0) (.slice none 0 0)).below hb | exact (Row3.lit wa 33 (.slice none 0 0) (.slice none 0 0) (.slice none 0 0)).below ((Below.refl _ _).drew.trans hb) | exact (Row3.lit wa.drew 33 (.slice none 0 0) (.slice none 0 0) (.slice none 0 0)).below hb | exact (Row3.lit wa.drew 33 (.slice none 0 0) (.slice none 0 0) (.slice none 0 0)).below ((Below.refl _ _).drew.trans hb)))); clear hb)
        | (clear tk3; go_at_call 12; refine (spec_Do Va D x _ (by first | exact (HPb.out.below (Below.refl wb.heap.size wb)).rk | exact (HPb.out.below (Below.refl wb.heap.size wb).drew).rk | exact (HPb.out.below ((Below.refl wb.heap.size wb).alloc (Nat.le_refl _) _)).rk | exact (HPb.out.below ((Below.refl wb.heap.size wb).drew.alloc (Nat.le_refl _) _)).rk | exact (HPb.out.below ((Below.refl wb.heap.size wb).alloc (Nat.le_refl _) _).drew).rk) HL2.out HS2.out HXS.out).mono ?_; rintro e wd ⟨V3, rfl, hA, hb⟩; have HBbd : Hid (Below wb.heap.size wb wd) := (by first | exact (Below.refl wb.heap.size wb).trans (hb.mono (Below.refl wb.heap.size wb).size) | exact (Below.refl wb.heap.size wb).drew.trans (hb.mono (Below.refl wb.heap.size wb).drew.size) | exact ((Below.refl wb.heap.size wb).alloc (Nat.le_refl _) _).trans (hb.mono ((Below.refl wb.heap.size wb).alloc (Nat.le_refl _) _).size) | exact ((Below.refl wb.heap.size wb).drew.alloc (Nat.le_refl _) _).trans (hb.mono ((Below.refl wb.heap.size wb).drew.alloc (Nat.le_refl _) _).size) | exact ((Below.refl wb.heap.size wb).alloc (Nat.le_refl _) _).drew.trans (hb.mono ((Below.refl wb.heap.size wb).alloc (Nat.le_refl _) _).drew.size)); have HBd := hid (HBb.out.trans (HBbd.out.mono HBb.out.size)); have HA3 : Hid (OwnK wd w2.heap.size V3 (doR D x)) := (by first | exact hA.mono (Nat.le_trans HBb.out.size (Below.refl wb.heap.size wb).size) | exact hA.mono (Nat.le_trans HBb.out.size (Below.refl wb.heap.size wb).drew.size) | exact hA.mono (Nat.le_trans HBb.out.size ((Below.refl wb.heap.size wb).alloc (Nat.le_refl _) _).size) | exact hA.mono (Nat.le_trans HBb.out.size ((Below.refl wb.heap.size wb).drew.alloc (Nat.le_refl _) _).size) | exact hA.mono (Nat.le_trans HBb.out.size ((Below.refl wb.heap.size wb).alloc (Nat.le_refl _) _).drew.size)); have yd0 := (XK.out.below HBd.out).c0; have yd1 := (XK.out.below HBd.out).c1; have yd2 := (XK.out.below HBd.out).c2; obtain ⟨_, ydo0, ydo1, ydo2, ydo3⟩ := XOK.out.below HBd.out; (try (have ZBd := hid (ZBb.out.below HBbd.out))); (try (have ZBd : Hid (Row3 wd wb.heap.size 33 (.slice none 0 0) (.slice none 0 0) (.slice none 0 0)) := (by first | exact (Row3.lit wb 33 (.slice none 0 0) (.slice none 0 0) (.slice none 0 0)).below hb | exact (Row3.lit wb 33 (.slice none 0 0) (.slice none 0 0) (.slice none 0 0)).below ((Below.refl _ _).drew.trans hb) | exact (Row3.lit wb.drew 33 (.slice none 0 0) (.slice none 0 0) (.slice none 0 0)).below hb | exact (Row3.lit wb.drew 33 (.slice none 0 0) (.slice none 0 0) (.slice none 0 0)).below ((Below.refl _ _).drew.trans hb)))); (try (have zd0 := ZBd.out.c0; have zd1 := ZBd.out.c1; have zd2 := ZBd.out.c2; have kd0 := ZBd.out.fz 0; have kd1 := ZBd.out.fz 1; have kd2 := ZBd.out.fz 2)); have m1 : ¬ w.heap.size = w2.heap.size := (by have := LA.out; omega); have m1x : ¬ w2.heap.size = w.heap.size := (by have := LA.out; omega); have m2 : ¬ w.heap.size + 1 = w2.heap.size := (by have := LB.out; omega); have m2x : ¬ w2.heap.size = w.heap.size + 1 := (by have := LB.out; omega); have m3 : ¬ w.heap.size = wa.heap.size := (by have := HBa.out.size; have := LA.out; omega); have m3x : ¬ wa.heap.size = w.heap.size := (by have := HBa.out.size; have := LA.out; omega); have m4 : ¬ w.heap.size + 1 = wa.heap.size := (by have := HBa.out.size; have := LB.out; omega); have m4x : ¬ wa.heap.size = w.heap.size + 1 := (by have := HBa.out.size; have := LB.out; omega); have m5 : ¬ w.heap.size = wb.heap.size := (by have := HBb.out.size; have := LA.out; omega); have m5x : ¬ wb.heap.size = w.heap.size := (by have := HBb.out.size; have := LA.out; omega); have m6 : ¬ w.heap.size + 1 = wb.heap.size := (by have := HBb.out.size; have := LB.out; omega); have m6x : ¬ wb.heap.size = w.heap.size + 1 := (by have := HBb.out.size; have := LB.out; omega); clear hA hb)
      )
    all_goals
      go_wp2_with fail
      go_meet
      case rel => first
        | exact ⟨_, V3, rfl, rfl, ((ZBd.out.s0 _).s1 _).s2 _, HA3.out.three ZBd.out _ _ _, (by first | exact Nat.le_refl _ | exact HBa.out.size | exact HBb.out.size), ((HBd.out.setCell (by first | exact Nat.le_refl _ | exact HBa.out.size | exact HBb.out.size) _).setCell (by first | exact Nat.le_refl _ | exact HBa.out.size | exact HBb.out.size) _).setCell (by first | exact Nat.le_refl _ | exact HBa.out.size | exact HBb.out.size) _⟩
        | exact ⟨_, V3, rfl, rfl, Row3.lit wd _ _ _ _, HA3.out.below ((Below.refl _ _).alloc (Nat.le_refl _) _), HBd.out.size, HBd.out.alloc HBd.out.size _⟩
  obtain ⟨g3, V3, rfl, rfl, hz, hp, hge, hb⟩ := hcut
  obtain ⟨w3, rfl⟩ : ∃ w3, w3 = wc := ⟨_, rfl⟩
  have C0_3 := hid (C0_2.out.trans (hb.out.mono C0_2.out.size))
  have hs3 : w2.heap.size ≤ w3.heap.size := hb.out.size
  have Z := hid hz.out
  have P3 := hid hp.out
  have GE3 := hid hge.out
  have GL3 := hid hz.out.lt
  clear hz hp hge hb XK XOK HRF
  have b0_0 := Row3.c0 (X.out.below C0_3.out)
  have b0_1 := Row3.c1 (X.out.below C0_3.out)
  have b0_2 := Row3.c2 (X.out.below C0_3.out)
  have b1_0 := Row3.c0 Z.out
  have b1_1 := Row3.c1 Z.out
  have b1_2 := Row3.c2 Z.out
  go_wp2_with fail
  clear b0_0 b0_1 b0_2 b1_0 b1_1 b1_2
  refine (toDisk_any V D _ ((HR.out.below C0_3.out).more C0_3.out.size) HL.out).mono ?_
  rintro e w4 ⟨V5, rfl, ho, hb⟩
  have C0_4 := hid (C0_3.out.trans (hb.mono C0_3.out.size))
  have C3_4 := hid (hb)
  have hs4 : w3.heap.size ≤ w4.heap.size := hb.size
  have P5 := hid ho
  clear ho hb
  have hbq : Below w4.heap.size w4 (w4.alloc (.cells #[.slice V5.A D.live.length V5.c, .slice V5.K D.safe.length V5.d, .slice V5.O D.ops.length V5.o] 33)) := (Below.refl _ _).alloc (Nat.le_refl _) _
  have hyq := Row3.lit w4 33 (.slice V5.A D.live.length V5.c) (.slice V5.K D.safe.length V5.d) (.slice V5.O D.ops.length V5.o)
  have b0_0 := Row3.c0 (X.out.below C0_4.out)
  have b0_1 := Row3.c1 (X.out.below C0_4.out)
  have b0_2 := Row3.c2 (X.out.below C0_4.out)
  have b1_0 := Row3.c0 (Z.out.below C3_4.out)
  have b1_1 := Row3.c1 (Z.out.below C3_4.out)
  have b1_2 := Row3.c2 (Z.out.below C3_4.out)
  have d0_0 := Row3.c0 (Row3.below (X.out.below C0_4.out) hbq)
  have d0_1 := Row3.c1 (Row3.below (X.out.below C0_4.out) hbq)
  have d0_2 := Row3.c2 (Row3.below (X.out.below C0_4.out) hbq)
  have d1_0 := Row3.c0 (Row3.below (Z.out.below C3_4.out) hbq)
  have d1_1 := Row3.c1 (Row3.below (Z.out.below C3_4.out) hbq)
  have d1_2 := Row3.c2 (Row3.below (Z.out.below C3_4.out) hbq)
  go_wp2_with fail
  clear b0_0 b0_1 b0_2 b1_0 b1_1 b1_2
  clear d0_0 d0_1 d0_2 d1_0 d1_1 d1_2
  generalize hgq : w4.alloc (.cells #[.slice V5.A D.live.length V5.c, .slice V5.K D.safe.length V5.d, .slice V5.O D.ops.length V5.o] 33) = w5 at *
  clear hgq
  have C0_5 := hid (C0_4.out.trans (hbq.mono C0_4.out.size))
  have C3_5 := hid (C3_4.out.trans (hbq.mono C3_4.out.size))
  have C4_5 := hid (hbq)
  have hs5 : w4.heap.size ≤ w5.heap.size := hbq.size
  have Y := hid hyq
  clear hyq hbq
  have b0_0 := Row3.c0 (X.out.below C0_5.out)
  have b0_1 := Row3.c1 (X.out.below C0_5.out)
  have b0_2 := Row3.c2 (X.out.below C0_5.out)
  have b1_0 := Row3.c0 (Z.out.below C3_5.out)
  have b1_1 := Row3.c1 (Z.out.below C3_5.out)
  have b1_2 := Row3.c2 (Z.out.below C3_5.out)
  have b2_0 := Row3.c0 Y.out
  have b2_1 := Row3.c1 Y.out
  have b2_2 := Row3.c2 Y.out
  go_wp2_with fail
  clear b0_0 b0_1 b0_2 b1_0 b1_1 b1_2 b2_0 b2_1 b2_2
  have XK := hid (X.out.below C0_5.out)
  have XOK := hid (XO.out.below C0_5.out)
  have HRF : Hid (∀ W, Below w5.heap.size w5 W → RK W W.heap.size V D) := fun W hb => (((HR.out.below C0_5.out).more C0_5.out.size).below hb).more hb.size
  have YK := hid Y.out
  have PK := hid (P5.out.below C4_5.out)
  go_cut [9, 10] from 36 to 42 (fun sg sk wc => ∃ (gq : Nat) (V3 : DV), sg = .pointer (some ⟨gq, 0, none⟩) ∧ sk = .int .i64 (doC D x) ∧ Hid (Row3 wc gq 33 (.slice V3.A (doR D x).live.length V3.c) (.slice V3.K (doR D x).safe.length V3.d) (.slice V3.O (doR D x).ops.length V3.o)) ∧ Hid (OwnK wc w5.heap.size V3 (doR D x)) ∧ Hid (w5.heap.size ≤ gq) ∧ Hid (Below w5.heap.size w5 wc))
  case first =>
    have LA := hid (YK.out.lt)
    have LB := hid (XOK.out.1)
    have tk1 : Hid (1 = 1) := rfl
    have tk2 : Hid (2 = 2) := rfl
    have tk3 : Hid (3 = 3) := rfl
    have y00 := YK.out.c0
    have y01 := YK.out.c1
    have y02 := YK.out.c2
    obtain ⟨_, y0o0, y0o1, y0o2, y0o3⟩ := XOK.out
    go_region_held3 (fun w' => w'.cell? ⟨w4.heap.size, 0, none⟩ = some (.slice V5.A D.live.length V5.c) ∧ w'.cell? ⟨w4.heap.size, 1, none⟩ = some (.slice V5.K D.safe.length V5.d) ∧ w'.cell? ⟨w4.heap.size, 2, none⟩ = some (.slice V5.O D.ops.length V5.o) ∧ w'.cell? ⟨w.heap.size + 1, 0, none⟩ = some (.int .i64 x.1) ∧ w'.cell? ⟨w.heap.size + 1, 1, none⟩ = some (.string x.2.1) ∧ w'.cell? ⟨w.heap.size + 1, 2, none⟩ = some (.string x.2.2.1) ∧ w'.cell? ⟨w.heap.size + 1, 3, none⟩ = some (.string x.2.2.2)) (go_keep)
      (first
        | (clear tk2; go_at_call 14; refine (toDOp_any x _).mono ?_; rintro e wb ⟨rfl, hb⟩; have HBab : Hid (Below w5.heap.size w5 wb) := (by first | exact (Below.refl w5.heap.size w5).trans (hb.mono (Below.refl w5.heap.size w5).size) | exact (Below.refl w5.heap.size w5).drew.trans (hb.mono (Below.refl w5.heap.size w5).drew.size) | exact ((Below.refl w5.heap.size w5).alloc (Nat.le_refl _) _).trans (hb.mono ((Below.refl w5.heap.size w5).alloc (Nat.le_refl _) _).size) | exact ((Below.refl w5.heap.size w5).drew.alloc (Nat.le_refl _) _).trans (hb.mono ((Below.refl w5.heap.size w5).drew.alloc (Nat.le_refl _) _).size) | exact ((Below.refl w5.heap.size w5).alloc (Nat.le_refl _) _).drew.trans (hb.mono ((Below.refl w5.heap.size w5).alloc (Nat.le_refl _) _).drew.size)); have HBb := hid HBab.out; have HPb := hid (PK.out.below HBab.out); have yb0 := (YK.out.below HBb.out).c0; have yb1 := (YK.out.below HBb.out).c1; have yb2 := (YK.out.below HBb.out).c2; obtain ⟨_, ybo0, ybo1, ybo2, ybo3⟩ := XOK.out.below HBb.out; (try (have ZBb : Hid (Row3 wb w5.heap.size 33 (.slice none 0 0) (.slice none 0 0) (.slice none 0 0)) := (by first | exact (Row3.lit w5 33 (.slice none 0 0) (.slice none 0 0) (.slice none 0 0)).below hb | exact (Row3.lit w5 33 (.slice none 0 0) (.slice none 0 0) (.slice none 0 0)).below ((Below.refl _ _).drew.trans hb) | exact (Row3.lit w5.drew 33 (.slice none 0 0) (.slice none 0 0) (.slice none 0 0)).below hb | exact (Row3.lit w5.drew 33 (.slice none 0 0) (.slice none 0 0) (.slice none 0 0)).below ((Below.refl _ _).drew.trans hb)))); clear hb)
        | (clear tk3; go_at_call 15; refine (impl_Do V5 D x _ (by first | exact (HPb.out.below (Below.refl wb.heap.size wb)).rk | exact (HPb.out.below (Below.refl wb.heap.size wb).drew).rk | exact (HPb.out.below ((Below.refl wb.heap.size wb).alloc (Nat.le_refl _) _)).rk | exact (HPb.out.below ((Below.refl wb.heap.size wb).drew.alloc (Nat.le_refl _) _)).rk | exact (HPb.out.below ((Below.refl wb.heap.size wb).alloc (Nat.le_refl _) _).drew).rk) HPb.out.vs HL2.out HS2.out HXS.out).mono ?_; rintro e wd ⟨V3, rfl, hA, hb⟩; have HBbd : Hid (Below wb.heap.size wb wd) := (by first | exact (Below.refl wb.heap.size wb).trans (hb.mono (Below.refl wb.heap.size wb).size) | exact (Below.refl wb.heap.size wb).drew.trans (hb.mono (Below.refl wb.heap.size wb).drew.size) | exact ((Below.refl wb.heap.size wb).alloc (Nat.le_refl _) _).trans (hb.mono ((Below.refl wb.heap.size wb).alloc (Nat.le_refl _) _).size) | exact ((Below.refl wb.heap.size wb).drew.alloc (Nat.le_refl _) _).trans (hb.mono ((Below.refl wb.heap.size wb).drew.alloc (Nat.le_refl _) _).size) | exact ((Below.refl wb.heap.size wb).alloc (Nat.le_refl _) _).drew.trans (hb.mono ((Below.refl wb.heap.size wb).alloc (Nat.le_refl _) _).drew.size)); have HBd := hid (HBb.out.trans (HBbd.out.mono HBb.out.size)); have HA3 : Hid (OwnK wd w5.heap.size V3 (doR D x)) := (by first | exact hA.mono (Nat.le_trans HBb.out.size (Below.refl wb.heap.size wb).size) | exact hA.mono (Nat.le_trans HBb.out.size (Below.refl wb.heap.size wb).drew.size) | exact hA.mono (Nat.le_trans HBb.out.size ((Below.refl wb.heap.size wb).alloc (Nat.le_refl _) _).size) | exact hA.mono (Nat.le_trans HBb.out.size ((Below.refl wb.heap.size wb).drew.alloc (Nat.le_refl _) _).size) | exact hA.mono (Nat.le_trans HBb.out.size ((Below.refl wb.heap.size wb).alloc (Nat.le_refl _) _).drew.size)); have yd0 := (YK.out.below HBd.out).c0; have yd1 := (YK.out.below HBd.out).c1; have yd2 := (YK.out.below HBd.out).c2; obtain ⟨_, ydo0, ydo1, ydo2, ydo3⟩ := XOK.out.below HBd.out; (try (have ZBd := hid (ZBb.out.below HBbd.out))); (try (have ZBd : Hid (Row3 wd wb.heap.size 33 (.slice none 0 0) (.slice none 0 0) (.slice none 0 0)) := (by first | exact (Row3.lit wb 33 (.slice none 0 0) (.slice none 0 0) (.slice none 0 0)).below hb | exact (Row3.lit wb 33 (.slice none 0 0) (.slice none 0 0) (.slice none 0 0)).below ((Below.refl _ _).drew.trans hb) | exact (Row3.lit wb.drew 33 (.slice none 0 0) (.slice none 0 0) (.slice none 0 0)).below hb | exact (Row3.lit wb.drew 33 (.slice none 0 0) (.slice none 0 0) (.slice none 0 0)).below ((Below.refl _ _).drew.trans hb)))); (try (have zd0 := ZBd.out.c0; have zd1 := ZBd.out.c1; have zd2 := ZBd.out.c2; have kd0 := ZBd.out.fz 0; have kd1 := ZBd.out.fz 1; have kd2 := ZBd.out.fz 2)); have m1 : ¬ w4.heap.size = w5.heap.size := (by have := LA.out; omega); have m1x : ¬ w5.heap.size = w4.heap.size := (by have := LA.out; omega); have m2 : ¬ w.heap.size + 1 = w5.heap.size := (by have := LB.out; omega); have m2x : ¬ w5.heap.size = w.heap.size + 1 := (by have := LB.out; omega); have m3 : ¬ w4.heap.size = wb.heap.size := (by have := HBb.out.size; have := LA.out; omega); have m3x : ¬ wb.heap.size = w4.heap.size := (by have := HBb.out.size; have := LA.out; omega); have m4 : ¬ w.heap.size + 1 = wb.heap.size := (by have := HBb.out.size; have := LB.out; omega); have m4x : ¬ wb.heap.size = w.heap.size + 1 := (by have := HBb.out.size; have := LB.out; omega); clear hA hb)
      )
    all_goals
      go_wp2_with fail
      go_meet
      case rel => first
        | exact ⟨_, V3, rfl, rfl, ((ZBd.out.s0 _).s1 _).s2 _, HA3.out.three ZBd.out _ _ _, (by first | exact Nat.le_refl _ | exact HBa.out.size | exact HBb.out.size), ((HBd.out.setCell (by first | exact Nat.le_refl _ | exact HBa.out.size | exact HBb.out.size) _).setCell (by first | exact Nat.le_refl _ | exact HBa.out.size | exact HBb.out.size) _).setCell (by first | exact Nat.le_refl _ | exact HBa.out.size | exact HBb.out.size) _⟩
        | exact ⟨_, V3, rfl, rfl, Row3.lit wd _ _ _ _, HA3.out.below ((Below.refl _ _).alloc (Nat.le_refl _) _), HBd.out.size, HBd.out.alloc HBd.out.size _⟩
  obtain ⟨g7, V7, rfl, rfl, hz, hp, hge, hb⟩ := hcut
  obtain ⟨w6, rfl⟩ : ∃ w6, w6 = wc := ⟨_, rfl⟩
  have C0_6 := hid (C0_5.out.trans (hb.out.mono C0_5.out.size))
  have C3_6 := hid (C3_5.out.trans (hb.out.mono C3_5.out.size))
  have C4_6 := hid (C4_5.out.trans (hb.out.mono C4_5.out.size))
  have C5_6 := hid (hb.out)
  have hs6 : w5.heap.size ≤ w6.heap.size := hb.out.size
  have GB := hid hz.out
  have P7 := hid hp.out
  have GE7 := hid hge.out
  have GL7 := hid hz.out.lt
  clear hz hp hge hb XK XOK HRF YK PK
  have hcc : ((doC D x) != (doC D x)) = false := by simp
  have b0_0 := Row3.c0 (X.out.below C0_6.out)
  have b0_1 := Row3.c1 (X.out.below C0_6.out)
  have b0_2 := Row3.c2 (X.out.below C0_6.out)
  have b1_0 := Row3.c0 (Z.out.below C3_6.out)
  have b1_1 := Row3.c1 (Z.out.below C3_6.out)
  have b1_2 := Row3.c2 (Z.out.below C3_6.out)
  have b2_0 := Row3.c0 (Y.out.below C5_6.out)
  have b2_1 := Row3.c1 (Y.out.below C5_6.out)
  have b2_2 := Row3.c2 (Y.out.below C5_6.out)
  have b3_0 := Row3.c0 GB.out
  have b3_1 := Row3.c1 GB.out
  have b3_2 := Row3.c2 GB.out
  go_wp2_with fail
  clear b0_0 b0_1 b0_2 b1_0 b1_1 b1_2 b2_0 b2_1 b2_2 b3_0 b3_1 b3_2
  refine (eqDisk_same V7 V3 (doR D x) _ P7.out.rk (P3.out.below C3_6.out).rk (HLR.out.more (by decide))).mono ?_
  rintro e w7 ⟨rfl, hb⟩
  have C0_7 := hid (C0_6.out.trans (hb.mono C0_6.out.size))
  have C3_7 := hid (C3_6.out.trans (hb.mono C3_6.out.size))
  have C4_7 := hid (C4_6.out.trans (hb.mono C4_6.out.size))
  have C5_7 := hid (C5_6.out.trans (hb.mono C5_6.out.size))
  have C6_7 := hid (hb)
  have hs7 : w6.heap.size ≤ w7.heap.size := hb.size
  clear hb
  have X6 := hid (X.out.below C0_7.out)
  have Y6 := hid (Y.out.below C5_7.out)
  have HB6 := hid C0_7.out
  have HP6 := hid (P5.out.below C4_7.out)
  have c1 : ∀ dq os, Calls Try.prog 13 #[.agg #[.slice V.A D.live.length V.c, .slice V.K D.safe.length V.d, .slice V.O D.ops.length V.o]] (Go.Sort.grow (redrawn w7 dq) os) (MadeK (Go.Sort.grow (redrawn w7 dq) os) (Go.Sort.grow (redrawn w7 dq) os).heap.size D) := fun dq os => toDisk_any V D _ ((HR.out.below (HB6.out.trans ((below_regrown w7 dq os).mono HB6.out.size))).more (HB6.out.trans ((below_regrown w7 dq os).mono HB6.out.size)).size) HL.out
  have b0_0 := Row3.c0 (X.out.below C0_7.out)
  have b0_1 := Row3.c1 (X.out.below C0_7.out)
  have b0_2 := Row3.c2 (X.out.below C0_7.out)
  have b1_0 := Row3.c0 (Z.out.below C3_7.out)
  have b1_1 := Row3.c1 (Z.out.below C3_7.out)
  have b1_2 := Row3.c2 (Z.out.below C3_7.out)
  have b2_0 := Row3.c0 (Y.out.below C5_7.out)
  have b2_1 := Row3.c1 (Y.out.below C5_7.out)
  have b2_2 := Row3.c2 (Y.out.below C5_7.out)
  have b3_0 := Row3.c0 (GB.out.below C6_7.out)
  have b3_1 := Row3.c1 (GB.out.below C6_7.out)
  have b3_2 := Row3.c2 (GB.out.below C6_7.out)
  go_wp2_with fail
  go_region_held3 (fun w' => w'.cell? ⟨w.heap.size, 0, none⟩ = some (.slice V.A D.live.length V.c) ∧ w'.cell? ⟨w.heap.size, 1, none⟩ = some (.slice V.K D.safe.length V.d) ∧ w'.cell? ⟨w.heap.size, 2, none⟩ = some (.slice V.O D.ops.length V.o) ∧
      w'.cell? ⟨w4.heap.size, 0, none⟩ = some (.slice V5.A D.live.length V5.c) ∧ w'.cell? ⟨w4.heap.size, 1, none⟩ = some (.slice V5.K D.safe.length V5.d) ∧ w'.cell? ⟨w4.heap.size, 2, none⟩ = some (.slice V5.O D.ops.length V5.o)) (go_keep)
    (first
      | (go_at_call 13; refine (toDisk_any V D _ ((HR.out.below HB6.out.drew).more HB6.out.drew.size) HL.out).mono ?_; rintro e w107 ⟨Vq, rfl, hp7, hb7⟩; have X7 := hid ((X6.out.below (Below.refl _ _).drew).below hb7); have Y7 := hid ((Y6.out.below (Below.refl _ _).drew).below hb7); have HP7 := hid hp7; have HQ7 := hid ((HP6.out.below (Below.refl _ _).drew).below hb7); have hbr := (Below.refl w7.heap.size w7).drew.trans hb7; have HB7 := hid hbr; clear hp7 hb7 hbr; have x70 := X7.out.c0; have x71 := X7.out.c1; have x72 := X7.out.c2; have y70 := Y7.out.c0; have y71 := Y7.out.c1; have y72 := Y7.out.c2)
      | (go_at_call 16; refine (eqDisk_same V5 Vq D _ HQ7.out.rk HP7.out.rk HN.out).mono ?_; rintro e w8 ⟨rfl, hb8⟩; have X8 := hid (X7.out.below hb8); have Y8 := hid (Y7.out.below hb8); have HB8 := hid (HB7.out.trans (hb8.mono HB7.out.size)); clear hb8; have x80 := X8.out.c0; have x81 := X8.out.c1; have x82 := X8.out.c2; have y80 := Y8.out.c0; have y81 := Y8.out.c1; have y82 := Y8.out.c2)
      | (go_at_call 16; refine (eqDisk_same V5 Vq D _ (HQ7.out.below (Below.refl _ _).drew).rk (HP7.out.below (Below.refl _ _).drew).rk HN.out).mono ?_; rintro e w8 ⟨rfl, hb8⟩; have X8 := hid ((X7.out.below (Below.refl _ _).drew).below hb8); have Y8 := hid ((Y7.out.below (Below.refl _ _).drew).below hb8); have HB8 := hid (HB7.out.drew.trans (hb8.mono HB7.out.size)); clear hb8; have x80 := X8.out.c0; have x81 := X8.out.c1; have x82 := X8.out.c2; have y80 := Y8.out.c0; have y81 := Y8.out.c1; have y82 := Y8.out.c2))
  have hbr := HB8.out
  clear x70 x71 x72 y70 y71 y72 x80 x81 x82 y80 y81 y82 c1
  clear b0_0 b0_1 b0_2 b1_0 b1_1 b1_2 b2_0 b2_1 b2_2 b3_0 b3_1 b3_2
  have C0_8 := hid (C0_7.out.trans (hbr.mono C0_7.out.size))
  have C3_8 := hid (C3_7.out.trans (hbr.mono C3_7.out.size))
  have C4_8 := hid (C4_7.out.trans (hbr.mono C4_7.out.size))
  have C5_8 := hid (C5_7.out.trans (hbr.mono C5_7.out.size))
  have C6_8 := hid (C6_7.out.trans (hbr.mono C6_7.out.size))
  have hs8 : w7.heap.size ≤ w8.heap.size := hbr.size
  clear hbr
  have XA := hid (fun q => OwnK.lt P5.out (q := q))
  have b0_0 := Row3.c0 (X.out.below C0_8.out)
  have b0_1 := Row3.c1 (X.out.below C0_8.out)
  have b0_2 := Row3.c2 (X.out.below C0_8.out)
  have b1_0 := Row3.c0 (Z.out.below C3_8.out)
  have b1_1 := Row3.c1 (Z.out.below C3_8.out)
  have b1_2 := Row3.c2 (Z.out.below C3_8.out)
  have b2_0 := Row3.c0 (Y.out.below C5_8.out)
  have b2_1 := Row3.c1 (Y.out.below C5_8.out)
  have b2_2 := Row3.c2 (Y.out.below C5_8.out)
  have b3_0 := Row3.c0 (GB.out.below C6_8.out)
  have b3_1 := Row3.c1 (GB.out.below C6_8.out)
  have b3_2 := Row3.c2 (GB.out.below C6_8.out)
  go_wp2_with fail
  clear b0_0 b0_1 b0_2 b1_0 b1_1 b1_2 b2_0 b2_1 b2_2 b3_0 b3_1 b3_2
  refine (markDisk_any w3.heap.size V5 D 1 _ (P5.out.below C4_8.out) (HL2.out) (by omega)).mono ?_
  rintro e w9 ⟨rfl, _, hg⟩
  have GA := hid (fun q => OwnK.lt P7.out (q := q))
  have N9 := hid (OwnK.turned (P7.out.below C6_8.out) hg (fun q hq e => by have := GA.out q hq; have := XA.out q e; omega))
  have NG9 := hid (own_turned3 (GB.out.below C6_8.out) hg (fun e => by have := XA.out _ e; have := GE7.out; omega))
  have hs9 : w8.heap.size ≤ w9.heap.size := hg.size
  have C0_9 := hid (TurnW.below C0_8.out hg C0_8.out.size (fun q hq => by have := XA.out q hq; omega))
  have C3_9 := hid (TurnW.below C3_8.out hg C3_8.out.size (fun q hq => by have := XA.out q hq; omega))
  clear hg
  have qk : ¬ ((numK D 1 : Nat) : Int) < 0 := by omega
  have b0_0 := Row3.c0 (X.out.below C0_9.out)
  have b0_1 := Row3.c1 (X.out.below C0_9.out)
  have b0_2 := Row3.c2 (X.out.below C0_9.out)
  have b1_0 := Row3.c0 (Z.out.below C3_9.out)
  have b1_1 := Row3.c1 (Z.out.below C3_9.out)
  have b1_2 := Row3.c2 (Z.out.below C3_9.out)
  have b2_0 := Row3.c0 NG9.out
  have b2_1 := Row3.c1 NG9.out
  have b2_2 := Row3.c2 NG9.out
  go_wp2_with fail
  clear b0_0 b0_1 b0_2 b1_0 b1_1 b1_2 b2_0 b2_1 b2_2
  refine (eqDisk_same V7 V3 (doR D x) _ N9.out.rk (P3.out.below C3_9.out).rk (HLR.out.more (by decide))).mono ?_
  rintro e w10 ⟨rfl, hb⟩
  have C0_10 := hid (C0_9.out.trans (hb.mono C0_9.out.size))
  have C3_10 := hid (C3_9.out.trans (hb.mono C3_9.out.size))
  have C9_10 := hid (hb)
  have hs10 : w9.heap.size ≤ w10.heap.size := hb.size
  clear hb
  have NB := hid (OwnK.apart (N9.out.below C9_10.out) (NG9.out.below C9_10.out))
  have b0_0 := Row3.c0 (X.out.below C0_10.out)
  have b0_1 := Row3.c1 (X.out.below C0_10.out)
  have b0_2 := Row3.c2 (X.out.below C0_10.out)
  have b1_0 := Row3.c0 (Z.out.below C3_10.out)
  have b1_1 := Row3.c1 (Z.out.below C3_10.out)
  have b1_2 := Row3.c2 (Z.out.below C3_10.out)
  have b2_0 := Row3.c0 (NG9.out.below C9_10.out)
  have b2_1 := Row3.c1 (NG9.out.below C9_10.out)
  have b2_2 := Row3.c2 (NG9.out.below C9_10.out)
  go_wp2_with fail
  clear b0_0 b0_1 b0_2 b1_0 b1_1 b1_2 b2_0 b2_1 b2_2
  refine (markDisk_any w5.heap.size V7 (doR D x) 1 _ (N9.out.below C9_10.out) (HLR.out.more (by decide)) (by omega)).mono ?_
  rintro e w11 ⟨rfl, ho, hg⟩
  have M11 := hid ho
  have MG11 := hid (own_turned3 (NG9.out.below C9_10.out) hg NB.out)
  have hs11 : w10.heap.size ≤ w11.heap.size := hg.size
  have C0_11 := hid (TurnW.below C0_10.out hg C0_10.out.size (fun q hq => by have := GA.out q hq; omega))
  have C3_11 := hid (TurnW.below C3_10.out hg C3_10.out.size (fun q hq => by have := GA.out q hq; omega))
  clear hg ho
  have q1 : ¬ ((numK (doR D x) 1 : Nat) : Int) < 0 := by omega
  have q3 : (((numK (doR D x) 1 : Nat) : Int) != ((numK (doR D x) 1 : Nat) : Int)) = false := by simp
  have b0_0 := Row3.c0 (X.out.below C0_11.out)
  have b0_1 := Row3.c1 (X.out.below C0_11.out)
  have b0_2 := Row3.c2 (X.out.below C0_11.out)
  have b1_0 := Row3.c0 (Z.out.below C3_11.out)
  have b1_1 := Row3.c1 (Z.out.below C3_11.out)
  have b1_2 := Row3.c2 (Z.out.below C3_11.out)
  have b2_0 := Row3.c0 MG11.out
  have b2_1 := Row3.c1 MG11.out
  have b2_2 := Row3.c2 MG11.out
  go_wp2_with fail
  clear b0_0 b0_1 b0_2 b1_0 b1_1 b1_2 b2_0 b2_1 b2_2
  refine (heldDisk_any V7 (doR D x) 1 _ M11.out.rk (HLR.out.more (by decide)) (by omega)).mono ?_
  rintro e w12 ⟨rfl, hb⟩
  have C0_12 := hid (C0_11.out.trans (hb.mono C0_11.out.size))
  have C3_12 := hid (C3_11.out.trans (hb.mono C3_11.out.size))
  have C11_12 := hid (hb)
  have hs12 : w11.heap.size ≤ w12.heap.size := hb.size
  clear hb
  have b0_0 := Row3.c0 (X.out.below C0_12.out)
  have b0_1 := Row3.c1 (X.out.below C0_12.out)
  have b0_2 := Row3.c2 (X.out.below C0_12.out)
  have b1_0 := Row3.c0 (Z.out.below C3_12.out)
  have b1_1 := Row3.c1 (Z.out.below C3_12.out)
  have b1_2 := Row3.c2 (Z.out.below C3_12.out)
  have b2_0 := Row3.c0 (MG11.out.below C11_12.out)
  have b2_1 := Row3.c1 (MG11.out.below C11_12.out)
  have b2_2 := Row3.c2 (MG11.out.below C11_12.out)
  go_wp2_with fail
  clear b0_0 b0_1 b0_2 b1_0 b1_1 b1_2 b2_0 b2_1 b2_2
  have XK := hid (X.out.below C0_12.out)
  have XOK := hid (XO.out.below C0_12.out)
  have HRF : Hid (∀ W, Below w12.heap.size w12 W → RK W W.heap.size V D) := fun W hb => (((HR.out.below C0_12.out).more C0_12.out.size).below hb).more hb.size
  go_cut [14, 15] from 84 to 91 (fun sg sk wc => ∃ (gq : Nat) (V3 : DV), sg = .pointer (some ⟨gq, 0, none⟩) ∧ sk = .int .i64 (doC D x) ∧ Hid (Row3 wc gq 33 (.slice V3.A (doR D x).live.length V3.c) (.slice V3.K (doR D x).safe.length V3.d) (.slice V3.O (doR D x).ops.length V3.o)) ∧ Hid (OwnK wc w12.heap.size V3 (doR D x)) ∧ Hid (w12.heap.size ≤ gq) ∧ Hid (Below w12.heap.size w12 wc))
  case first =>
    have LA := hid (XK.out.lt)
    have LB := hid (XOK.out.1)
    have tk1 : Hid (1 = 1) := rfl
    have tk2 : Hid (2 = 2) := rfl
    have tk3 : Hid (3 = 3) := rfl
    have y00 := XK.out.c0
    have y01 := XK.out.c1
    have y02 := XK.out.c2
    obtain ⟨_, y0o0, y0o1, y0o2, y0o3⟩ := XOK.out
    go_region_held3 (fun w' => w'.cell? ⟨w.heap.size, 0, none⟩ = some (.slice V.A D.live.length V.c) ∧ w'.cell? ⟨w.heap.size, 1, none⟩ = some (.slice V.K D.safe.length V.d) ∧ w'.cell? ⟨w.heap.size, 2, none⟩ = some (.slice V.O D.ops.length V.o) ∧ w'.cell? ⟨w.heap.size + 1, 0, none⟩ = some (.int .i64 x.1) ∧ w'.cell? ⟨w.heap.size + 1, 1, none⟩ = some (.string x.2.1) ∧ w'.cell? ⟨w.heap.size + 1, 2, none⟩ = some (.string x.2.2.1) ∧ w'.cell? ⟨w.heap.size + 1, 3, none⟩ = some (.string x.2.2.2)) (go_keep)
      (first
        | (clear tk1; go_at_call 13; refine (toDisk_any V D _ (by first | exact HRF.out _ (Below.refl w12.heap.size w12) | exact HRF.out _ (Below.refl w12.heap.size w12).drew | exact HRF.out _ ((Below.refl w12.heap.size w12).alloc (Nat.le_refl _) _) | exact HRF.out _ ((Below.refl w12.heap.size w12).drew.alloc (Nat.le_refl _) _) | exact HRF.out _ ((Below.refl w12.heap.size w12).alloc (Nat.le_refl _) _).drew) HL.out).mono ?_; rintro e wa ⟨Va, rfl, hp, hb⟩; have HBa : Hid (Below w12.heap.size w12 wa) := (by first | exact (Below.refl w12.heap.size w12).trans (hb.mono (Below.refl w12.heap.size w12).size) | exact (Below.refl w12.heap.size w12).drew.trans (hb.mono (Below.refl w12.heap.size w12).drew.size) | exact ((Below.refl w12.heap.size w12).alloc (Nat.le_refl _) _).trans (hb.mono ((Below.refl w12.heap.size w12).alloc (Nat.le_refl _) _).size) | exact ((Below.refl w12.heap.size w12).drew.alloc (Nat.le_refl _) _).trans (hb.mono ((Below.refl w12.heap.size w12).drew.alloc (Nat.le_refl _) _).size) | exact ((Below.refl w12.heap.size w12).alloc (Nat.le_refl _) _).drew.trans (hb.mono ((Below.refl w12.heap.size w12).alloc (Nat.le_refl _) _).drew.size)); have HPa := hid hp; have ya0 := (XK.out.below HBa.out).c0; have ya1 := (XK.out.below HBa.out).c1; have ya2 := (XK.out.below HBa.out).c2; obtain ⟨_, yao0, yao1, yao2, yao3⟩ := XOK.out.below HBa.out; (try (have ZBa : Hid (Row3 wa w12.heap.size 33 (.slice none 0 0) (.slice none 0 0) (.slice none 0 0)) := (by first | exact (Row3.lit w12 33 (.slice none 0 0) (.slice none 0 0) (.slice none 0 0)).below hb | exact (Row3.lit w12 33 (.slice none 0 0) (.slice none 0 0) (.slice none 0 0)).below ((Below.refl _ _).drew.trans hb) | exact (Row3.lit w12.drew 33 (.slice none 0 0) (.slice none 0 0) (.slice none 0 0)).below hb | exact (Row3.lit w12.drew 33 (.slice none 0 0) (.slice none 0 0) (.slice none 0 0)).below ((Below.refl _ _).drew.trans hb)))); clear hp hb)
        | (clear tk2; go_at_call 14; refine (toDOp_any x _).mono ?_; rintro e wb ⟨rfl, hb⟩; have HBab : Hid (Below wa.heap.size wa wb) := (by first | exact (Below.refl wa.heap.size wa).trans (hb.mono (Below.refl wa.heap.size wa).size) | exact (Below.refl wa.heap.size wa).drew.trans (hb.mono (Below.refl wa.heap.size wa).drew.size) | exact ((Below.refl wa.heap.size wa).alloc (Nat.le_refl _) _).trans (hb.mono ((Below.refl wa.heap.size wa).alloc (Nat.le_refl _) _).size) | exact ((Below.refl wa.heap.size wa).drew.alloc (Nat.le_refl _) _).trans (hb.mono ((Below.refl wa.heap.size wa).drew.alloc (Nat.le_refl _) _).size) | exact ((Below.refl wa.heap.size wa).alloc (Nat.le_refl _) _).drew.trans (hb.mono ((Below.refl wa.heap.size wa).alloc (Nat.le_refl _) _).drew.size)); have HBb := hid (HBa.out.trans (HBab.out.mono HBa.out.size)); have HPb := hid (HPa.out.below HBab.out); have yb0 := (XK.out.below HBb.out).c0; have yb1 := (XK.out.below HBb.out).c1; have yb2 := (XK.out.below HBb.out).c2; obtain ⟨_, ybo0, ybo1, ybo2, ybo3⟩ := XOK.out.below HBb.out; (try (have ZBb := hid (ZBa.out.below HBab.out))); (try (have ZBb : Hid (Row3 wb wa.heap.size 33 (.slice none 0 0) (.slice none 0 0) (.slice none 0 0)) := (by first | exact (Row3.lit wa 33 (.slice none 0 0) (.slice none 0 0) (.slice none 0 0)).below hb | exact (Row3.lit wa 33 (.slice none 0 0) (.slice none 0 0) (.slice none 0 0)).below ((Below.refl _ _).drew.trans hb) | exact (Row3.lit wa.drew 33 (.slice none 0 0) (.slice none 0 0) (.slice none 0 0)).below hb | exact (Row3.lit wa.drew 33 (.slice none 0 0) (.slice none 0 0) (.slice none 0 0)).below ((Below.refl _ _).drew.trans hb)))); clear hb)
        | (clear tk3; go_at_call 15; refine (impl_Do Va D x _ (by first | exact (HPb.out.below (Below.refl wb.heap.size wb)).rk | exact (HPb.out.below (Below.refl wb.heap.size wb).drew).rk | exact (HPb.out.below ((Below.refl wb.heap.size wb).alloc (Nat.le_refl _) _)).rk | exact (HPb.out.below ((Below.refl wb.heap.size wb).drew.alloc (Nat.le_refl _) _)).rk | exact (HPb.out.below ((Below.refl wb.heap.size wb).alloc (Nat.le_refl _) _).drew).rk) HPb.out.vs HL2.out HS2.out HXS.out).mono ?_; rintro e wd ⟨V3, rfl, hA, hb⟩; have HBbd : Hid (Below wb.heap.size wb wd) := (by first | exact (Below.refl wb.heap.size wb).trans (hb.mono (Below.refl wb.heap.size wb).size) | exact (Below.refl wb.heap.size wb).drew.trans (hb.mono (Below.refl wb.heap.size wb).drew.size) | exact ((Below.refl wb.heap.size wb).alloc (Nat.le_refl _) _).trans (hb.mono ((Below.refl wb.heap.size wb).alloc (Nat.le_refl _) _).size) | exact ((Below.refl wb.heap.size wb).drew.alloc (Nat.le_refl _) _).trans (hb.mono ((Below.refl wb.heap.size wb).drew.alloc (Nat.le_refl _) _).size) | exact ((Below.refl wb.heap.size wb).alloc (Nat.le_refl _) _).drew.trans (hb.mono ((Below.refl wb.heap.size wb).alloc (Nat.le_refl _) _).drew.size)); have HBd := hid (HBb.out.trans (HBbd.out.mono HBb.out.size)); have HA3 : Hid (OwnK wd w12.heap.size V3 (doR D x)) := (by first | exact hA.mono (Nat.le_trans HBb.out.size (Below.refl wb.heap.size wb).size) | exact hA.mono (Nat.le_trans HBb.out.size (Below.refl wb.heap.size wb).drew.size) | exact hA.mono (Nat.le_trans HBb.out.size ((Below.refl wb.heap.size wb).alloc (Nat.le_refl _) _).size) | exact hA.mono (Nat.le_trans HBb.out.size ((Below.refl wb.heap.size wb).drew.alloc (Nat.le_refl _) _).size) | exact hA.mono (Nat.le_trans HBb.out.size ((Below.refl wb.heap.size wb).alloc (Nat.le_refl _) _).drew.size)); have yd0 := (XK.out.below HBd.out).c0; have yd1 := (XK.out.below HBd.out).c1; have yd2 := (XK.out.below HBd.out).c2; obtain ⟨_, ydo0, ydo1, ydo2, ydo3⟩ := XOK.out.below HBd.out; (try (have ZBd := hid (ZBb.out.below HBbd.out))); (try (have ZBd : Hid (Row3 wd wb.heap.size 33 (.slice none 0 0) (.slice none 0 0) (.slice none 0 0)) := (by first | exact (Row3.lit wb 33 (.slice none 0 0) (.slice none 0 0) (.slice none 0 0)).below hb | exact (Row3.lit wb 33 (.slice none 0 0) (.slice none 0 0) (.slice none 0 0)).below ((Below.refl _ _).drew.trans hb) | exact (Row3.lit wb.drew 33 (.slice none 0 0) (.slice none 0 0) (.slice none 0 0)).below hb | exact (Row3.lit wb.drew 33 (.slice none 0 0) (.slice none 0 0) (.slice none 0 0)).below ((Below.refl _ _).drew.trans hb)))); (try (have zd0 := ZBd.out.c0; have zd1 := ZBd.out.c1; have zd2 := ZBd.out.c2; have kd0 := ZBd.out.fz 0; have kd1 := ZBd.out.fz 1; have kd2 := ZBd.out.fz 2)); have m1 : ¬ w.heap.size = w12.heap.size := (by have := LA.out; omega); have m1x : ¬ w12.heap.size = w.heap.size := (by have := LA.out; omega); have m2 : ¬ w.heap.size + 1 = w12.heap.size := (by have := LB.out; omega); have m2x : ¬ w12.heap.size = w.heap.size + 1 := (by have := LB.out; omega); have m3 : ¬ w.heap.size = wa.heap.size := (by have := HBa.out.size; have := LA.out; omega); have m3x : ¬ wa.heap.size = w.heap.size := (by have := HBa.out.size; have := LA.out; omega); have m4 : ¬ w.heap.size + 1 = wa.heap.size := (by have := HBa.out.size; have := LB.out; omega); have m4x : ¬ wa.heap.size = w.heap.size + 1 := (by have := HBa.out.size; have := LB.out; omega); have m5 : ¬ w.heap.size = wb.heap.size := (by have := HBb.out.size; have := LA.out; omega); have m5x : ¬ wb.heap.size = w.heap.size := (by have := HBb.out.size; have := LA.out; omega); have m6 : ¬ w.heap.size + 1 = wb.heap.size := (by have := HBb.out.size; have := LB.out; omega); have m6x : ¬ wb.heap.size = w.heap.size + 1 := (by have := HBb.out.size; have := LB.out; omega); clear hA hb)
      )
    all_goals
      go_wp2_with fail
      go_meet
      case rel => first
        | exact ⟨_, V3, rfl, rfl, ((ZBd.out.s0 _).s1 _).s2 _, HA3.out.three ZBd.out _ _ _, (by first | exact Nat.le_refl _ | exact HBa.out.size | exact HBb.out.size), ((HBd.out.setCell (by first | exact Nat.le_refl _ | exact HBa.out.size | exact HBb.out.size) _).setCell (by first | exact Nat.le_refl _ | exact HBa.out.size | exact HBb.out.size) _).setCell (by first | exact Nat.le_refl _ | exact HBa.out.size | exact HBb.out.size) _⟩
        | exact ⟨_, V3, rfl, rfl, Row3.lit wd _ _ _ _, HA3.out.below ((Below.refl _ _).alloc (Nat.le_refl _) _), HBd.out.size, HBd.out.alloc HBd.out.size _⟩
  obtain ⟨g21, V21, rfl, rfl, hz, hp, hge, hb⟩ := hcut
  obtain ⟨w13, rfl⟩ : ∃ w13, w13 = wc := ⟨_, rfl⟩
  have C0_13 := hid (C0_12.out.trans (hb.out.mono C0_12.out.size))
  have C3_13 := hid (C3_12.out.trans (hb.out.mono C3_12.out.size))
  have C11_13 := hid (C11_12.out.trans (hb.out.mono C11_12.out.size))
  have hs13 : w12.heap.size ≤ w13.heap.size := hb.out.size
  have HB22 := hid hz.out
  have P21 := hid hp.out
  have GE21 := hid hge.out
  have GL21 := hid hz.out.lt
  clear hz hp hge hb XK XOK HRF
  have b0_0 := Row3.c0 (X.out.below C0_13.out)
  have b0_1 := Row3.c1 (X.out.below C0_13.out)
  have b0_2 := Row3.c2 (X.out.below C0_13.out)
  have b1_0 := Row3.c0 (Z.out.below C3_13.out)
  have b1_1 := Row3.c1 (Z.out.below C3_13.out)
  have b1_2 := Row3.c2 (Z.out.below C3_13.out)
  have b2_0 := Row3.c0 (MG11.out.below C11_13.out)
  have b2_1 := Row3.c1 (MG11.out.below C11_13.out)
  have b2_2 := Row3.c2 (MG11.out.below C11_13.out)
  have b3_0 := Row3.c0 HB22.out
  have b3_1 := Row3.c1 HB22.out
  have b3_2 := Row3.c2 HB22.out
  go_wp2_with fail
  clear b0_0 b0_1 b0_2 b1_0 b1_1 b1_2 b2_0 b2_1 b2_2 b3_0 b3_1 b3_2
  refine (eqDisk_same V21 V3 (doR D x) _ P21.out.rk (P3.out.below C3_13.out).rk (HLR.out.more (by decide))).mono ?_
  rintro e w14 ⟨rfl, hb⟩
  have C0_14 := hid (C0_13.out.trans (hb.mono C0_13.out.size))
  have C3_14 := hid (C3_13.out.trans (hb.mono C3_13.out.size))
  have C11_14 := hid (C11_13.out.trans (hb.mono C11_13.out.size))
  have C13_14 := hid (hb)
  have hs14 : w13.heap.size ≤ w14.heap.size := hb.size
  clear hb
  have b0_0 := Row3.c0 (X.out.below C0_14.out)
  have b0_1 := Row3.c1 (X.out.below C0_14.out)
  have b0_2 := Row3.c2 (X.out.below C0_14.out)
  have b1_0 := Row3.c0 (Z.out.below C3_14.out)
  have b1_1 := Row3.c1 (Z.out.below C3_14.out)
  have b1_2 := Row3.c2 (Z.out.below C3_14.out)
  have b2_0 := Row3.c0 (MG11.out.below C11_14.out)
  have b2_1 := Row3.c1 (MG11.out.below C11_14.out)
  have b2_2 := Row3.c2 (MG11.out.below C11_14.out)
  have b3_0 := Row3.c0 (HB22.out.below C13_14.out)
  have b3_1 := Row3.c1 (HB22.out.below C13_14.out)
  have b3_2 := Row3.c2 (HB22.out.below C13_14.out)
  go_wp2_with fail
  clear b0_0 b0_1 b0_2 b1_0 b1_1 b1_2 b2_0 b2_1 b2_2 b3_0 b3_1 b3_2
  refine (heldDisk_any V7 (doR D x) 1 _ (M11.out.below C11_14.out).rk (HLR.out.more (by decide)) (by omega)).mono ?_
  rintro e w15 ⟨rfl, hb⟩
  have C0_15 := hid (C0_14.out.trans (hb.mono C0_14.out.size))
  have C3_15 := hid (C3_14.out.trans (hb.mono C3_14.out.size))
  have C11_15 := hid (C11_14.out.trans (hb.mono C11_14.out.size))
  have C13_15 := hid (C13_14.out.trans (hb.mono C13_14.out.size))
  have hs15 : w14.heap.size ≤ w15.heap.size := hb.size
  clear hb
  have b0_0 := Row3.c0 (X.out.below C0_15.out)
  have b0_1 := Row3.c1 (X.out.below C0_15.out)
  have b0_2 := Row3.c2 (X.out.below C0_15.out)
  have b1_0 := Row3.c0 (Z.out.below C3_15.out)
  have b1_1 := Row3.c1 (Z.out.below C3_15.out)
  have b1_2 := Row3.c2 (Z.out.below C3_15.out)
  have b2_0 := Row3.c0 (MG11.out.below C11_15.out)
  have b2_1 := Row3.c1 (MG11.out.below C11_15.out)
  have b2_2 := Row3.c2 (MG11.out.below C11_15.out)
  have b3_0 := Row3.c0 (HB22.out.below C13_15.out)
  have b3_1 := Row3.c1 (HB22.out.below C13_15.out)
  have b3_2 := Row3.c2 (HB22.out.below C13_15.out)
  go_wp2_with fail
  go_ret
  exact ⟨rfl, HB0.out.trans (C0_15.out.mono HB0.out.size)⟩

set_option maxRecDepth 100000 in
theorem exactDo_lifted (os : Os) (started : os.Started) (H : Type) (enc : TypeId × Value → H) :
    ReturnsInHanded {} Try.checked os 3 .any (Rows.fnExactDoSpec.pre6 enc Try.prog Try.f3 Rows.fnExactDoRow.domain false) (Rows.fnExactDoSpec.post enc Try.prog Try.f3 false true false false) := by
  refine returnsInHanded_of_change (C := Try.checked) own started (by kernel_rfl) Try.func3
    (ChangeSpec.witness6 (enc := enc) (C := Try.checked) false ⟨#[], #[.agg #[.slice none 0 0, .slice none 0 0, .slice none 0 0], .agg #[.int .i64 0, .string ⟨#[]⟩, .string ⟨#[]⟩, .string ⟨#[]⟩]], []⟩ 8 (by kernel_rfl) (by kernel_rfl) (by kernel_rfl) (by kernel_rfl)) ?_
  intro W base args ds gs before hval hW _ _
  have hW' := hW
  obtain ⟨p, q, hA0, hV, rfl, hfz, hnd⟩ := hW
  have hA : DataW.TrodAll enc Try.prog W 0 (fun _ => true) true Try.f3.params.toList args.toList ds p := hA0
  rw [Try.params3] at hA hval
  obtain ⟨v0, vs0, d0, ds0, p0, q0, hargs, rfl, rfl, h0, r0⟩ := trodAll_cons hA
  obtain ⟨v1, vs1, d1, ds1, p1, q1, rfl, rfl, rfl, h1, r1⟩ := trodAll_cons r0
  obtain ⟨rfl, rfl, rfl⟩ := trodAll_nil r1
  obtain rfl : args = #[v0, v1] := by cases args; simp_all
  clear hargs
  obtain ⟨V0, D, rfl, rr0, f0, n0⟩ := open_disk (hval 0 25 v0 rfl rfl) h0
  obtain ⟨x, rfl, z1⟩ := open_dop (hval 1 27 v1 rfl rfl) h1
  refine (exactDo_walk V0 D x W rr0 f0 n0 z1).mono fun e W' ⟨he, hw⟩ => ?_
  subst he
  exact ⟨_, rfl, law_post (tb := 4) laidOut (by kernel_rfl) rfl hW' Try.underlying4 (by kernel_rfl) (fun gs' e => by subst e; rfl) hw⟩

theorem exactDo_holds : Rows.FnExactDoSaid :=
  OpenClaim.holds_of_wide 3 Try.f3 rfl rfl rfl rfl rfl rfl rfl ⟨rfl, rfl, rfl, rfl, rfl⟩ rfl rfl rfl rfl rfl (by kernel_rfl) Try.func3 (by kernel_rfl)
    (of_decide_eq_true (by kernel_rfl)) (by unfold Func.isWrapper; rw [if_neg (of_decide_eq_false (by kernel_rfl))]; exact ⟨rfl, rfl⟩)
    (fun os started H enc _ => exactDo_lifted os started H enc)
end Go.Proofs.Ytaiehccpefjbfaa
