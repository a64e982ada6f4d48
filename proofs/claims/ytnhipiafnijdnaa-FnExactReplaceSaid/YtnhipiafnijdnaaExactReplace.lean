/-
  FnExactReplace answers true at all disks, names and data, and its arguments read as they did. No condition.
-/
import Derived.Test.YtnhipiafnijdnaaOpenDsk
import Derived.Test.YtnhipiafnijdnaaDskW
import Derived.Test.YtnhipiafnijdnaaDskLaw
import Derived.Test.YtnhipiafnijdnaaLawKit
import Derived.Test.YtnhipiafnijdnaaPost
import Derived.Test.YtnhipiafnijdnaaOpen
namespace Go.Proofs.Ytnhipiafnijdnaa
open Go.ChangeShapes Go.WideShapes Go.ChangeAt Go.RowKit

set_option maxHeartbeats 16000000 in
set_option maxRecDepth 100000 in
theorem exactReplace_walk (V : DV) (D : DK) (n d : ByteArray) (w : World) (hr : RK w w.heap.size V D) (hf : FitsK D) (hn : LenK D maxLen) (hnx : n.size ≤ maxLen) (hdx : d.size ≤ maxLen) :
    Calls Try.prog 8 #[.agg #[.slice V.A D.live.length V.c, .slice V.K D.safe.length V.d, .slice V.O D.ops.length V.o], .string n, .string d] w fun e w' => e = .returned (.bool true) ∧ Below w.heap.size w w' := by
  have hb0 : Below w.heap.size w (w.alloc (.cells #[.slice V.A D.live.length V.c, .slice V.K D.safe.length V.d, .slice V.O D.ops.length V.o] 25)) := (Below.refl _ _).alloc (Nat.le_refl _) _
  have hx0 := Row3.lit w 25 (.slice V.A D.live.length V.c) (.slice V.K D.safe.length V.d) (.slice V.O D.ops.length V.o)
  have HB0 := hid hb0
  have X := hid hx0
  have HR := hid ((hr.below hb0).more hb0.size)
  have HF := hid hf
  have HN := hid hn
  clear hr hf hn hb0 hx0
  have HLR := hid (repR_len D n d)
  unfold maxLen at hnx hdx
  by_cases bign : 1048576 < n.size
  · go_enter Try.func8, Try.ntmps8
    go_wp2_with fail
    go_ret
    exact ⟨rfl, HB0.out⟩
  by_cases bigd : 1048576 < d.size
  · go_enter Try.func8, Try.ntmps8
    go_wp2_with fail
    go_ret
    exact ⟨rfl, HB0.out⟩
  have hns : n.size ≤ 1048576 := by omega
  have hds : d.size ≤ 1048576 := by omega
  go_enter Try.func8, Try.ntmps8
  go_wp2_with fail
  generalize hgq : w.alloc (.cells #[.slice V.A D.live.length V.c, .slice V.K D.safe.length V.d, .slice V.O D.ops.length V.o] 25) = w0 at *
  clear hgq
  refine (szDisk_any V D 1048576 _ HR.out HF.out HN.out (by omega) (by omega)).mono ?_
  rintro e w1 ⟨r, rfl, _, _, hr3, hb⟩
  have C0_1 := hid (hb)
  have hs1 : w0.heap.size ≤ w1.heap.size := hb.size
  have HZ := hid hr3
  clear hr3 hb
  by_cases hneg : r < 0
  · have b0_0 := Row3.c0 (X.out.below C0_1.out)
    go_wp2_with fail
    go_ret
    exact ⟨rfl, HB0.out.trans (C0_1.out.mono HB0.out.size)⟩
  have HL := hid (HZ.out (by omega)).1
  have HS := hid (HZ.out (by omega)).2
  have HL2 := hid (HL.out.more (by decide : 1048576 ≤ 2000000))
  have HS2 := hid (SmallK.more HS.out (by decide : 1048576 ≤ 4000000))
  have b0_0 := Row3.c0 (X.out.below C0_1.out)
  have b0_1 := Row3.c1 (X.out.below C0_1.out)
  have b0_2 := Row3.c2 (X.out.below C0_1.out)
  go_wp2_with fail
  clear b0_0 b0_1 b0_2
  refine (toDisk_any V D _ ((HR.out.below C0_1.out).more C0_1.out.size) HL.out).mono ?_
  rintro e w2 ⟨V2, rfl, ho, hb⟩
  have C0_2 := hid (C0_1.out.trans (hb.mono C0_1.out.size))
  have hs2 : w1.heap.size ≤ w2.heap.size := hb.size
  have P2 := hid ho
  clear ho hb
  have b0_0 := Row3.c0 (X.out.below C0_2.out)
  have b0_1 := Row3.c1 (X.out.below C0_2.out)
  have b0_2 := Row3.c2 (X.out.below C0_2.out)
  go_wp2_with fail
  clear b0_0 b0_1 b0_2
  refine (spec_Replace V2 D n d _ P2.out.rk HL2.out HS2.out hns hds).mono ?_
  rintro e w3 ⟨V3, rfl, ho, hb⟩
  have C0_3 := hid (C0_2.out.trans (hb.mono C0_2.out.size))
  have C2_3 := hid (hb)
  have hs3 : w2.heap.size ≤ w3.heap.size := hb.size
  have P3 := hid ho
  clear ho hb
  have hbq : Below w3.heap.size w3 (w3.alloc (.cells #[.slice V3.A (repR D n d).live.length V3.c, .slice V3.K (repR D n d).safe.length V3.d, .slice V3.O (repR D n d).ops.length V3.o] 31)) := (Below.refl _ _).alloc (Nat.le_refl _) _
  have hyq := Row3.lit w3 31 (.slice V3.A (repR D n d).live.length V3.c) (.slice V3.K (repR D n d).safe.length V3.d) (.slice V3.O (repR D n d).ops.length V3.o)
  have b0_0 := Row3.c0 (X.out.below C0_3.out)
  have b0_1 := Row3.c1 (X.out.below C0_3.out)
  have b0_2 := Row3.c2 (X.out.below C0_3.out)
  have d0_0 := Row3.c0 (Row3.below (X.out.below C0_3.out) hbq)
  have d0_1 := Row3.c1 (Row3.below (X.out.below C0_3.out) hbq)
  have d0_2 := Row3.c2 (Row3.below (X.out.below C0_3.out) hbq)
  go_wp2_with fail
  clear b0_0 b0_1 b0_2
  clear d0_0 d0_1 d0_2
  generalize hgq : w3.alloc (.cells #[.slice V3.A (repR D n d).live.length V3.c, .slice V3.K (repR D n d).safe.length V3.d, .slice V3.O (repR D n d).ops.length V3.o] 31) = w4 at *
  clear hgq
  have C0_4 := hid (C0_3.out.trans (hbq.mono C0_3.out.size))
  have C2_4 := hid (C2_3.out.trans (hbq.mono C2_3.out.size))
  have C3_4 := hid (hbq)
  have hs4 : w3.heap.size ≤ w4.heap.size := hbq.size
  have Z := hid hyq
  clear hyq hbq
  refine (toDisk_any V D _ ((HR.out.below C0_4.out).more C0_4.out.size) HL.out).mono ?_
  rintro e w5 ⟨V5, rfl, ho, hb⟩
  have C0_5 := hid (C0_4.out.trans (hb.mono C0_4.out.size))
  have C2_5 := hid (C2_4.out.trans (hb.mono C2_4.out.size))
  have C3_5 := hid (C3_4.out.trans (hb.mono C3_4.out.size))
  have C4_5 := hid (hb)
  have hs5 : w4.heap.size ≤ w5.heap.size := hb.size
  have P5 := hid ho
  clear ho hb
  have hbq : Below w5.heap.size w5 (w5.alloc (.cells #[.slice V5.A D.live.length V5.c, .slice V5.K D.safe.length V5.d, .slice V5.O D.ops.length V5.o] 31)) := (Below.refl _ _).alloc (Nat.le_refl _) _
  have hyq := Row3.lit w5 31 (.slice V5.A D.live.length V5.c) (.slice V5.K D.safe.length V5.d) (.slice V5.O D.ops.length V5.o)
  have b0_0 := Row3.c0 (X.out.below C0_5.out)
  have b0_1 := Row3.c1 (X.out.below C0_5.out)
  have b0_2 := Row3.c2 (X.out.below C0_5.out)
  have b1_0 := Row3.c0 (Z.out.below C4_5.out)
  have b1_1 := Row3.c1 (Z.out.below C4_5.out)
  have b1_2 := Row3.c2 (Z.out.below C4_5.out)
  have d0_0 := Row3.c0 (Row3.below (X.out.below C0_5.out) hbq)
  have d0_1 := Row3.c1 (Row3.below (X.out.below C0_5.out) hbq)
  have d0_2 := Row3.c2 (Row3.below (X.out.below C0_5.out) hbq)
  have d1_0 := Row3.c0 (Row3.below (Z.out.below C4_5.out) hbq)
  have d1_1 := Row3.c1 (Row3.below (Z.out.below C4_5.out) hbq)
  have d1_2 := Row3.c2 (Row3.below (Z.out.below C4_5.out) hbq)
  go_wp2_with fail
  clear b0_0 b0_1 b0_2 b1_0 b1_1 b1_2
  clear d0_0 d0_1 d0_2 d1_0 d1_1 d1_2
  generalize hgq : w5.alloc (.cells #[.slice V5.A D.live.length V5.c, .slice V5.K D.safe.length V5.d, .slice V5.O D.ops.length V5.o] 31) = w6 at *
  clear hgq
  have C0_6 := hid (C0_5.out.trans (hbq.mono C0_5.out.size))
  have C2_6 := hid (C2_5.out.trans (hbq.mono C2_5.out.size))
  have C3_6 := hid (C3_5.out.trans (hbq.mono C3_5.out.size))
  have C4_6 := hid (C4_5.out.trans (hbq.mono C4_5.out.size))
  have C5_6 := hid (hbq)
  have hs6 : w5.heap.size ≤ w6.heap.size := hbq.size
  have Y := hid hyq
  clear hyq hbq
  refine (impl_Replace V5 D n d _ (P5.out.below C5_6.out).rk (P5.out.below C5_6.out).vs HL2.out HS2.out hns hds).mono ?_
  rintro e w7 ⟨V7, rfl, ho, hb⟩
  have C0_7 := hid (C0_6.out.trans (hb.mono C0_6.out.size))
  have C2_7 := hid (C2_6.out.trans (hb.mono C2_6.out.size))
  have C3_7 := hid (C3_6.out.trans (hb.mono C3_6.out.size))
  have C4_7 := hid (C4_6.out.trans (hb.mono C4_6.out.size))
  have C5_7 := hid (C5_6.out.trans (hb.mono C5_6.out.size))
  have C6_7 := hid (hb)
  have hs7 : w6.heap.size ≤ w7.heap.size := hb.size
  have P7 := hid ho
  clear ho hb
  have hbq : Below w7.heap.size w7 (w7.alloc (.cells #[.slice V7.A (repR D n d).live.length V7.c, .slice V7.K (repR D n d).safe.length V7.d, .slice V7.O (repR D n d).ops.length V7.o] 31)) := (Below.refl _ _).alloc (Nat.le_refl _) _
  have hyq := Row3.lit w7 31 (.slice V7.A (repR D n d).live.length V7.c) (.slice V7.K (repR D n d).safe.length V7.d) (.slice V7.O (repR D n d).ops.length V7.o)
  have b0_0 := Row3.c0 (X.out.below C0_7.out)
  have b0_1 := Row3.c1 (X.out.below C0_7.out)
  have b0_2 := Row3.c2 (X.out.below C0_7.out)
  have b1_0 := Row3.c0 (Z.out.below C4_7.out)
  have b1_1 := Row3.c1 (Z.out.below C4_7.out)
  have b1_2 := Row3.c2 (Z.out.below C4_7.out)
  have b2_0 := Row3.c0 (Y.out.below C6_7.out)
  have b2_1 := Row3.c1 (Y.out.below C6_7.out)
  have b2_2 := Row3.c2 (Y.out.below C6_7.out)
  have d0_0 := Row3.c0 (Row3.below (X.out.below C0_7.out) hbq)
  have d0_1 := Row3.c1 (Row3.below (X.out.below C0_7.out) hbq)
  have d0_2 := Row3.c2 (Row3.below (X.out.below C0_7.out) hbq)
  have d1_0 := Row3.c0 (Row3.below (Z.out.below C4_7.out) hbq)
  have d1_1 := Row3.c1 (Row3.below (Z.out.below C4_7.out) hbq)
  have d1_2 := Row3.c2 (Row3.below (Z.out.below C4_7.out) hbq)
  have d2_0 := Row3.c0 (Row3.below (Y.out.below C6_7.out) hbq)
  have d2_1 := Row3.c1 (Row3.below (Y.out.below C6_7.out) hbq)
  have d2_2 := Row3.c2 (Row3.below (Y.out.below C6_7.out) hbq)
  go_wp2_with fail
  clear b0_0 b0_1 b0_2 b1_0 b1_1 b1_2 b2_0 b2_1 b2_2
  clear d0_0 d0_1 d0_2 d1_0 d1_1 d1_2 d2_0 d2_1 d2_2
  generalize hgq : w7.alloc (.cells #[.slice V7.A (repR D n d).live.length V7.c, .slice V7.K (repR D n d).safe.length V7.d, .slice V7.O (repR D n d).ops.length V7.o] 31) = w8 at *
  clear hgq
  have C0_8 := hid (C0_7.out.trans (hbq.mono C0_7.out.size))
  have C2_8 := hid (C2_7.out.trans (hbq.mono C2_7.out.size))
  have C3_8 := hid (C3_7.out.trans (hbq.mono C3_7.out.size))
  have C4_8 := hid (C4_7.out.trans (hbq.mono C4_7.out.size))
  have C5_8 := hid (C5_7.out.trans (hbq.mono C5_7.out.size))
  have C6_8 := hid (C6_7.out.trans (hbq.mono C6_7.out.size))
  have C7_8 := hid (hbq)
  have hs8 : w7.heap.size ≤ w8.heap.size := hbq.size
  have GB := hid hyq
  clear hyq hbq
  have hcc : (repC D n d != repC D n d) = false := by simp
  refine (eqDisk_same V7 V3 (repR D n d) _ (P7.out.below C7_8.out).rk (P3.out.below C3_8.out).rk (HLR.out.more (by decide))).mono ?_
  rintro e w9 ⟨rfl, hb⟩
  have C0_9 := hid (C0_8.out.trans (hb.mono C0_8.out.size))
  have C2_9 := hid (C2_8.out.trans (hb.mono C2_8.out.size))
  have C3_9 := hid (C3_8.out.trans (hb.mono C3_8.out.size))
  have C4_9 := hid (C4_8.out.trans (hb.mono C4_8.out.size))
  have C5_9 := hid (C5_8.out.trans (hb.mono C5_8.out.size))
  have C6_9 := hid (C6_8.out.trans (hb.mono C6_8.out.size))
  have C7_9 := hid (C7_8.out.trans (hb.mono C7_8.out.size))
  have C8_9 := hid (hb)
  have hs9 : w8.heap.size ≤ w9.heap.size := hb.size
  clear hb
  have X6 := hid (X.out.below C0_9.out)
  have Y6 := hid (Y.out.below C6_9.out)
  have HB6 := hid C0_9.out
  have HP6 := hid (P5.out.below C5_9.out)
  have c1 : ∀ dq os, Calls Try.prog 17 #[.agg #[.slice V.A D.live.length V.c, .slice V.K D.safe.length V.d, .slice V.O D.ops.length V.o]] (Go.Sort.grow (redrawn w9 dq) os) (MadeK (Go.Sort.grow (redrawn w9 dq) os) (Go.Sort.grow (redrawn w9 dq) os).heap.size D) := fun dq os => toDisk_any V D _ ((HR.out.below (HB6.out.trans ((below_regrown w9 dq os).mono HB6.out.size))).more (HB6.out.trans ((below_regrown w9 dq os).mono HB6.out.size)).size) HL.out
  have b0_0 := Row3.c0 (X.out.below C0_9.out)
  have b0_1 := Row3.c1 (X.out.below C0_9.out)
  have b0_2 := Row3.c2 (X.out.below C0_9.out)
  have b1_0 := Row3.c0 (Z.out.below C4_9.out)
  have b1_1 := Row3.c1 (Z.out.below C4_9.out)
  have b1_2 := Row3.c2 (Z.out.below C4_9.out)
  have b2_0 := Row3.c0 (Y.out.below C6_9.out)
  have b2_1 := Row3.c1 (Y.out.below C6_9.out)
  have b2_2 := Row3.c2 (Y.out.below C6_9.out)
  have b3_0 := Row3.c0 (GB.out.below C8_9.out)
  have b3_1 := Row3.c1 (GB.out.below C8_9.out)
  have b3_2 := Row3.c2 (GB.out.below C8_9.out)
  go_wp2_with fail
  go_region_held3 (fun w' => w'.cell? ⟨w.heap.size, 0, none⟩ = some (.slice V.A D.live.length V.c) ∧ w'.cell? ⟨w.heap.size, 1, none⟩ = some (.slice V.K D.safe.length V.d) ∧ w'.cell? ⟨w.heap.size, 2, none⟩ = some (.slice V.O D.ops.length V.o) ∧
      w'.cell? ⟨w5.heap.size, 0, none⟩ = some (.slice V5.A D.live.length V5.c) ∧ w'.cell? ⟨w5.heap.size, 1, none⟩ = some (.slice V5.K D.safe.length V5.d) ∧ w'.cell? ⟨w5.heap.size, 2, none⟩ = some (.slice V5.O D.ops.length V5.o)) (go_keep)
    (first
      | (go_at_call 17; refine (toDisk_any V D _ ((HR.out.below HB6.out.drew).more HB6.out.drew.size) HL.out).mono ?_; rintro e w109 ⟨Vq, rfl, hp7, hb7⟩; have X7 := hid ((X6.out.below (Below.refl _ _).drew).below hb7); have Y7 := hid ((Y6.out.below (Below.refl _ _).drew).below hb7); have HP7 := hid hp7; have HQ7 := hid ((HP6.out.below (Below.refl _ _).drew).below hb7); have hbr := (Below.refl w9.heap.size w9).drew.trans hb7; have HB7 := hid hbr; clear hp7 hb7 hbr; have x70 := X7.out.c0; have x71 := X7.out.c1; have x72 := X7.out.c2; have y70 := Y7.out.c0; have y71 := Y7.out.c1; have y72 := Y7.out.c2)
      | (go_at_call 19; refine (eqDisk_same V5 Vq D _ HQ7.out.rk HP7.out.rk HN.out).mono ?_; rintro e w10 ⟨rfl, hb8⟩; have X8 := hid (X7.out.below hb8); have Y8 := hid (Y7.out.below hb8); have HB8 := hid (HB7.out.trans (hb8.mono HB7.out.size)); clear hb8; have x80 := X8.out.c0; have x81 := X8.out.c1; have x82 := X8.out.c2; have y80 := Y8.out.c0; have y81 := Y8.out.c1; have y82 := Y8.out.c2)
      | (go_at_call 19; refine (eqDisk_same V5 Vq D _ (HQ7.out.below (Below.refl _ _).drew).rk (HP7.out.below (Below.refl _ _).drew).rk HN.out).mono ?_; rintro e w10 ⟨rfl, hb8⟩; have X8 := hid ((X7.out.below (Below.refl _ _).drew).below hb8); have Y8 := hid ((Y7.out.below (Below.refl _ _).drew).below hb8); have HB8 := hid (HB7.out.drew.trans (hb8.mono HB7.out.size)); clear hb8; have x80 := X8.out.c0; have x81 := X8.out.c1; have x82 := X8.out.c2; have y80 := Y8.out.c0; have y81 := Y8.out.c1; have y82 := Y8.out.c2))
  have hbr := HB8.out
  clear x70 x71 x72 y70 y71 y72 x80 x81 x82 y80 y81 y82 c1
  clear b0_0 b0_1 b0_2 b1_0 b1_1 b1_2 b2_0 b2_1 b2_2 b3_0 b3_1 b3_2
  have C0_10 := hid (C0_9.out.trans (hbr.mono C0_9.out.size))
  have C2_10 := hid (C2_9.out.trans (hbr.mono C2_9.out.size))
  have C3_10 := hid (C3_9.out.trans (hbr.mono C3_9.out.size))
  have C4_10 := hid (C4_9.out.trans (hbr.mono C4_9.out.size))
  have C5_10 := hid (C5_9.out.trans (hbr.mono C5_9.out.size))
  have C6_10 := hid (C6_9.out.trans (hbr.mono C6_9.out.size))
  have C7_10 := hid (C7_9.out.trans (hbr.mono C7_9.out.size))
  have C8_10 := hid (C8_9.out.trans (hbr.mono C8_9.out.size))
  have hs10 : w9.heap.size ≤ w10.heap.size := hbr.size
  clear hbr
  have XA := hid (fun q => OwnK.lt P5.out (q := q))
  have b0_0 := Row3.c0 (X.out.below C0_10.out)
  have b0_1 := Row3.c1 (X.out.below C0_10.out)
  have b0_2 := Row3.c2 (X.out.below C0_10.out)
  have b1_0 := Row3.c0 (Z.out.below C4_10.out)
  have b1_1 := Row3.c1 (Z.out.below C4_10.out)
  have b1_2 := Row3.c2 (Z.out.below C4_10.out)
  have b2_0 := Row3.c0 (Y.out.below C6_10.out)
  have b2_1 := Row3.c1 (Y.out.below C6_10.out)
  have b2_2 := Row3.c2 (Y.out.below C6_10.out)
  have b3_0 := Row3.c0 (GB.out.below C8_10.out)
  have b3_1 := Row3.c1 (GB.out.below C8_10.out)
  have b3_2 := Row3.c2 (GB.out.below C8_10.out)
  go_wp2_with fail
  clear b0_0 b0_1 b0_2 b1_0 b1_1 b1_2 b2_0 b2_1 b2_2 b3_0 b3_1 b3_2
  refine (markDisk_any w4.heap.size V5 D 1 _ (P5.out.below C5_10.out) (HL2.out) (by omega)).mono ?_
  rintro e w11 ⟨rfl, _, hg⟩
  have GA := hid (fun q => OwnK.lt P7.out (q := q))
  have N11 := hid (OwnK.turned (P7.out.below C7_10.out) hg (fun q hq e => by have := GA.out q hq; have := XA.out q e; omega))
  have NG11 := hid (own_turned3 (GB.out.below C8_10.out) hg (fun e => by have := XA.out _ e; omega))
  have hs11 : w10.heap.size ≤ w11.heap.size := hg.size
  have C0_11 := hid (TurnW.below C0_10.out hg C0_10.out.size (fun q hq => by have := XA.out q hq; omega))
  have C3_11 := hid (TurnW.below C3_10.out hg C3_10.out.size (fun q hq => by have := XA.out q hq; omega))
  have C4_11 := hid (TurnW.below C4_10.out hg C4_10.out.size (fun q hq => by have := XA.out q hq; omega))
  clear hg
  have qk : ¬ ((numK D 1 : Nat) : Int) < 0 := by omega
  have b0_0 := Row3.c0 (X.out.below C0_11.out)
  have b0_1 := Row3.c1 (X.out.below C0_11.out)
  have b0_2 := Row3.c2 (X.out.below C0_11.out)
  have b1_0 := Row3.c0 (Z.out.below C4_11.out)
  have b1_1 := Row3.c1 (Z.out.below C4_11.out)
  have b1_2 := Row3.c2 (Z.out.below C4_11.out)
  have b2_0 := Row3.c0 NG11.out
  have b2_1 := Row3.c1 NG11.out
  have b2_2 := Row3.c2 NG11.out
  go_wp2_with fail
  clear b0_0 b0_1 b0_2 b1_0 b1_1 b1_2 b2_0 b2_1 b2_2
  refine (eqDisk_same V7 V3 (repR D n d) _ N11.out.rk (P3.out.below C3_11.out).rk (HLR.out.more (by decide))).mono ?_
  rintro e w12 ⟨rfl, hb⟩
  have C0_12 := hid (C0_11.out.trans (hb.mono C0_11.out.size))
  have C3_12 := hid (C3_11.out.trans (hb.mono C3_11.out.size))
  have C4_12 := hid (C4_11.out.trans (hb.mono C4_11.out.size))
  have C11_12 := hid (hb)
  have hs12 : w11.heap.size ≤ w12.heap.size := hb.size
  clear hb
  have b0_0 := Row3.c0 (X.out.below C0_12.out)
  have b0_1 := Row3.c1 (X.out.below C0_12.out)
  have b0_2 := Row3.c2 (X.out.below C0_12.out)
  have b1_0 := Row3.c0 (Z.out.below C4_12.out)
  have b1_1 := Row3.c1 (Z.out.below C4_12.out)
  have b1_2 := Row3.c2 (Z.out.below C4_12.out)
  have b2_0 := Row3.c0 (NG11.out.below C11_12.out)
  have b2_1 := Row3.c1 (NG11.out.below C11_12.out)
  have b2_2 := Row3.c2 (NG11.out.below C11_12.out)
  go_wp2_with fail
  clear b0_0 b0_1 b0_2 b1_0 b1_1 b1_2 b2_0 b2_1 b2_2
  refine (markDisk_any w6.heap.size V7 (repR D n d) 1 _ (N11.out.below C11_12.out) (HLR.out.more (by decide)) (by omega)).mono ?_
  rintro e w13 ⟨rfl, ho, hg⟩
  have M13 := hid ho
  have MG13 := hid (own_turned3 (NG11.out.below C11_12.out) hg (fun e => by have := GA.out _ e; omega))
  have hs13 : w12.heap.size ≤ w13.heap.size := hg.size
  have C0_13 := hid (TurnW.below C0_12.out hg C0_12.out.size (fun q hq => by have := GA.out q hq; omega))
  have C3_13 := hid (TurnW.below C3_12.out hg C3_12.out.size (fun q hq => by have := GA.out q hq; omega))
  have C4_13 := hid (TurnW.below C4_12.out hg C4_12.out.size (fun q hq => by have := GA.out q hq; omega))
  clear hg ho
  have q1 : ¬ ((numK (repR D n d) 1 : Nat) : Int) < 0 := by omega
  have q3 : (((numK (repR D n d) 1 : Nat) : Int) != ((numK (repR D n d) 1 : Nat) : Int)) = false := by simp
  have b0_0 := Row3.c0 (X.out.below C0_13.out)
  have b0_1 := Row3.c1 (X.out.below C0_13.out)
  have b0_2 := Row3.c2 (X.out.below C0_13.out)
  have b1_0 := Row3.c0 (Z.out.below C4_13.out)
  have b1_1 := Row3.c1 (Z.out.below C4_13.out)
  have b1_2 := Row3.c2 (Z.out.below C4_13.out)
  have b2_0 := Row3.c0 MG13.out
  have b2_1 := Row3.c1 MG13.out
  have b2_2 := Row3.c2 MG13.out
  go_wp2_with fail
  clear b0_0 b0_1 b0_2 b1_0 b1_1 b1_2 b2_0 b2_1 b2_2
  refine (heldDisk_any V7 (repR D n d) 1 _ M13.out.rk (HLR.out.more (by decide)) (by omega)).mono ?_
  rintro e w14 ⟨rfl, hb⟩
  have C0_14 := hid (C0_13.out.trans (hb.mono C0_13.out.size))
  have C3_14 := hid (C3_13.out.trans (hb.mono C3_13.out.size))
  have C4_14 := hid (C4_13.out.trans (hb.mono C4_13.out.size))
  have C13_14 := hid (hb)
  have hs14 : w13.heap.size ≤ w14.heap.size := hb.size
  clear hb
  have b0_0 := Row3.c0 (X.out.below C0_14.out)
  have b0_1 := Row3.c1 (X.out.below C0_14.out)
  have b0_2 := Row3.c2 (X.out.below C0_14.out)
  have b1_0 := Row3.c0 (Z.out.below C4_14.out)
  have b1_1 := Row3.c1 (Z.out.below C4_14.out)
  have b1_2 := Row3.c2 (Z.out.below C4_14.out)
  have b2_0 := Row3.c0 (MG13.out.below C13_14.out)
  have b2_1 := Row3.c1 (MG13.out.below C13_14.out)
  have b2_2 := Row3.c2 (MG13.out.below C13_14.out)
  go_wp2_with fail
  clear b0_0 b0_1 b0_2 b1_0 b1_1 b1_2 b2_0 b2_1 b2_2
  refine (toDisk_any V D _ ((HR.out.below C0_14.out).more C0_14.out.size) HL.out).mono ?_
  rintro e w15 ⟨V20, rfl, ho, hb⟩
  have C0_15 := hid (C0_14.out.trans (hb.mono C0_14.out.size))
  have C3_15 := hid (C3_14.out.trans (hb.mono C3_14.out.size))
  have C4_15 := hid (C4_14.out.trans (hb.mono C4_14.out.size))
  have C13_15 := hid (C13_14.out.trans (hb.mono C13_14.out.size))
  have hs15 : w14.heap.size ≤ w15.heap.size := hb.size
  have P20 := hid ho
  clear ho hb
  have b0_0 := Row3.c0 (X.out.below C0_15.out)
  have b0_1 := Row3.c1 (X.out.below C0_15.out)
  have b0_2 := Row3.c2 (X.out.below C0_15.out)
  have b1_0 := Row3.c0 (Z.out.below C4_15.out)
  have b1_1 := Row3.c1 (Z.out.below C4_15.out)
  have b1_2 := Row3.c2 (Z.out.below C4_15.out)
  have b2_0 := Row3.c0 (MG13.out.below C13_15.out)
  have b2_1 := Row3.c1 (MG13.out.below C13_15.out)
  have b2_2 := Row3.c2 (MG13.out.below C13_15.out)
  go_wp2_with fail
  clear b0_0 b0_1 b0_2 b1_0 b1_1 b1_2 b2_0 b2_1 b2_2
  refine (impl_Replace V20 D n d _ P20.out.rk P20.out.vs HL2.out HS2.out hns hds).mono ?_
  rintro e w16 ⟨V21, rfl, ho, hb⟩
  have C0_16 := hid (C0_15.out.trans (hb.mono C0_15.out.size))
  have C3_16 := hid (C3_15.out.trans (hb.mono C3_15.out.size))
  have C4_16 := hid (C4_15.out.trans (hb.mono C4_15.out.size))
  have C13_16 := hid (C13_15.out.trans (hb.mono C13_15.out.size))
  have C15_16 := hid (hb)
  have hs16 : w15.heap.size ≤ w16.heap.size := hb.size
  have P21 := hid ho
  clear ho hb
  have hbq : Below w16.heap.size w16 (w16.alloc (.cells #[.slice V21.A (repR D n d).live.length V21.c, .slice V21.K (repR D n d).safe.length V21.d, .slice V21.O (repR D n d).ops.length V21.o] 31)) := (Below.refl _ _).alloc (Nat.le_refl _) _
  have hyq := Row3.lit w16 31 (.slice V21.A (repR D n d).live.length V21.c) (.slice V21.K (repR D n d).safe.length V21.d) (.slice V21.O (repR D n d).ops.length V21.o)
  have b0_0 := Row3.c0 (X.out.below C0_16.out)
  have b0_1 := Row3.c1 (X.out.below C0_16.out)
  have b0_2 := Row3.c2 (X.out.below C0_16.out)
  have b1_0 := Row3.c0 (Z.out.below C4_16.out)
  have b1_1 := Row3.c1 (Z.out.below C4_16.out)
  have b1_2 := Row3.c2 (Z.out.below C4_16.out)
  have b2_0 := Row3.c0 (MG13.out.below C13_16.out)
  have b2_1 := Row3.c1 (MG13.out.below C13_16.out)
  have b2_2 := Row3.c2 (MG13.out.below C13_16.out)
  have d0_0 := Row3.c0 (Row3.below (X.out.below C0_16.out) hbq)
  have d0_1 := Row3.c1 (Row3.below (X.out.below C0_16.out) hbq)
  have d0_2 := Row3.c2 (Row3.below (X.out.below C0_16.out) hbq)
  have d1_0 := Row3.c0 (Row3.below (Z.out.below C4_16.out) hbq)
  have d1_1 := Row3.c1 (Row3.below (Z.out.below C4_16.out) hbq)
  have d1_2 := Row3.c2 (Row3.below (Z.out.below C4_16.out) hbq)
  have d2_0 := Row3.c0 (Row3.below (MG13.out.below C13_16.out) hbq)
  have d2_1 := Row3.c1 (Row3.below (MG13.out.below C13_16.out) hbq)
  have d2_2 := Row3.c2 (Row3.below (MG13.out.below C13_16.out) hbq)
  go_wp2_with fail
  clear b0_0 b0_1 b0_2 b1_0 b1_1 b1_2 b2_0 b2_1 b2_2
  clear d0_0 d0_1 d0_2 d1_0 d1_1 d1_2 d2_0 d2_1 d2_2
  generalize hgq : w16.alloc (.cells #[.slice V21.A (repR D n d).live.length V21.c, .slice V21.K (repR D n d).safe.length V21.d, .slice V21.O (repR D n d).ops.length V21.o] 31) = w17 at *
  clear hgq
  have C0_17 := hid (C0_16.out.trans (hbq.mono C0_16.out.size))
  have C3_17 := hid (C3_16.out.trans (hbq.mono C3_16.out.size))
  have C4_17 := hid (C4_16.out.trans (hbq.mono C4_16.out.size))
  have C13_17 := hid (C13_16.out.trans (hbq.mono C13_16.out.size))
  have C15_17 := hid (C15_16.out.trans (hbq.mono C15_16.out.size))
  have C16_17 := hid (hbq)
  have hs17 : w16.heap.size ≤ w17.heap.size := hbq.size
  have HB22 := hid hyq
  clear hyq hbq
  refine (eqDisk_same V21 V3 (repR D n d) _ (P21.out.below C16_17.out).rk (P3.out.below C3_17.out).rk (HLR.out.more (by decide))).mono ?_
  rintro e w18 ⟨rfl, hb⟩
  have C0_18 := hid (C0_17.out.trans (hb.mono C0_17.out.size))
  have C3_18 := hid (C3_17.out.trans (hb.mono C3_17.out.size))
  have C4_18 := hid (C4_17.out.trans (hb.mono C4_17.out.size))
  have C13_18 := hid (C13_17.out.trans (hb.mono C13_17.out.size))
  have C15_18 := hid (C15_17.out.trans (hb.mono C15_17.out.size))
  have C16_18 := hid (C16_17.out.trans (hb.mono C16_17.out.size))
  have C17_18 := hid (hb)
  have hs18 : w17.heap.size ≤ w18.heap.size := hb.size
  clear hb
  have b0_0 := Row3.c0 (X.out.below C0_18.out)
  have b0_1 := Row3.c1 (X.out.below C0_18.out)
  have b0_2 := Row3.c2 (X.out.below C0_18.out)
  have b1_0 := Row3.c0 (Z.out.below C4_18.out)
  have b1_1 := Row3.c1 (Z.out.below C4_18.out)
  have b1_2 := Row3.c2 (Z.out.below C4_18.out)
  have b2_0 := Row3.c0 (MG13.out.below C13_18.out)
  have b2_1 := Row3.c1 (MG13.out.below C13_18.out)
  have b2_2 := Row3.c2 (MG13.out.below C13_18.out)
  have b3_0 := Row3.c0 (HB22.out.below C17_18.out)
  have b3_1 := Row3.c1 (HB22.out.below C17_18.out)
  have b3_2 := Row3.c2 (HB22.out.below C17_18.out)
  go_wp2_with fail
  clear b0_0 b0_1 b0_2 b1_0 b1_1 b1_2 b2_0 b2_1 b2_2 b3_0 b3_1 b3_2
  refine (heldDisk_any V7 (repR D n d) 1 _ (M13.out.below C13_18.out).rk (HLR.out.more (by decide)) (by omega)).mono ?_
  rintro e w19 ⟨rfl, hb⟩
  have C0_19 := hid (C0_18.out.trans (hb.mono C0_18.out.size))
  have C3_19 := hid (C3_18.out.trans (hb.mono C3_18.out.size))
  have C4_19 := hid (C4_18.out.trans (hb.mono C4_18.out.size))
  have C13_19 := hid (C13_18.out.trans (hb.mono C13_18.out.size))
  have C15_19 := hid (C15_18.out.trans (hb.mono C15_18.out.size))
  have C16_19 := hid (C16_18.out.trans (hb.mono C16_18.out.size))
  have C17_19 := hid (C17_18.out.trans (hb.mono C17_18.out.size))
  have hs19 : w18.heap.size ≤ w19.heap.size := hb.size
  clear hb
  have b0_0 := Row3.c0 (X.out.below C0_19.out)
  have b0_1 := Row3.c1 (X.out.below C0_19.out)
  have b0_2 := Row3.c2 (X.out.below C0_19.out)
  have b1_0 := Row3.c0 (Z.out.below C4_19.out)
  have b1_1 := Row3.c1 (Z.out.below C4_19.out)
  have b1_2 := Row3.c2 (Z.out.below C4_19.out)
  have b2_0 := Row3.c0 (MG13.out.below C13_19.out)
  have b2_1 := Row3.c1 (MG13.out.below C13_19.out)
  have b2_2 := Row3.c2 (MG13.out.below C13_19.out)
  have b3_0 := Row3.c0 (HB22.out.below C17_19.out)
  have b3_1 := Row3.c1 (HB22.out.below C17_19.out)
  have b3_2 := Row3.c2 (HB22.out.below C17_19.out)
  go_wp2_with fail
  go_ret
  exact ⟨rfl, HB0.out.trans (C0_19.out.mono HB0.out.size)⟩

set_option maxRecDepth 100000 in
theorem exactReplace_lifted (os : Os) (started : os.Started) (H : Type) (enc : TypeId × Value → H) :
    ReturnsInHanded {} Try.checked os 8 .any (Rows.fnExactReplaceSpec.pre6 enc Try.prog Try.f8 Rows.fnExactReplaceRow.domain false) (Rows.fnExactReplaceSpec.post enc Try.prog Try.f8 false true false false) := by
  refine returnsInHanded_of_change (C := Try.checked) own started (by kernel_rfl) Try.func8
    (ChangeSpec.witness6 (enc := enc) (C := Try.checked) false ⟨#[], #[.agg #[.slice none 0 0, .slice none 0 0, .slice none 0 0], .string ⟨#[]⟩, .string ⟨#[]⟩], []⟩ 8 (by kernel_rfl) (by kernel_rfl) (by kernel_rfl) (by kernel_rfl)) ?_
  intro W base args ds gs before hval hW _ _
  have hW' := hW
  obtain ⟨p, q, hA0, hV, rfl, hfz, hnd⟩ := hW
  have hA : DataW.TrodAll enc Try.prog W 0 (fun _ => true) true Try.f8.params.toList args.toList ds p := hA0
  rw [Try.params8] at hA hval
  obtain ⟨v0, vs0, d0, ds0, p0, q0, hargs, rfl, rfl, h0, r0⟩ := trodAll_cons hA
  obtain ⟨v1, vs1, d1, ds1, p1, q1, rfl, rfl, rfl, h1, r1⟩ := trodAll_cons r0
  obtain ⟨v2, vs2, d2, ds2, p2, q2, rfl, rfl, rfl, h2, r2⟩ := trodAll_cons r1
  obtain ⟨rfl, rfl, rfl⟩ := trodAll_nil r2
  obtain rfl : args = #[v0, v1, v2] := by cases args; simp_all
  clear hargs
  obtain ⟨V0, D, rfl, rr0, f0, n0⟩ := open_disk (hval 0 25 v0 rfl rfl) h0
  obtain ⟨n, rfl, rfl, rfl, w1⟩ := Go.ChangeMaps.open_string Try.underlying9 (hval 1 9 v1 rfl rfl) h1
  obtain ⟨d, rfl, rfl, rfl, w2⟩ := Go.ChangeMaps.open_string Try.underlying9 (hval 2 9 v2 rfl rfl) h2
  refine (exactReplace_walk V0 D n d W rr0 f0 n0 w1 w2).mono fun e W' ⟨he, hw⟩ => ?_
  subst he
  exact ⟨_, rfl, law_post (tb := 4) laidOut (by kernel_rfl) rfl hW' Try.underlying4 (by kernel_rfl) (fun gs' e => by subst e; rfl) hw⟩

theorem exactReplace_holds : Rows.FnExactReplaceSaid :=
  OpenClaim.holds_of_wide 8 Try.f8 rfl rfl rfl rfl rfl rfl rfl ⟨rfl, rfl, rfl, rfl, rfl⟩ rfl rfl rfl rfl rfl (by kernel_rfl) Try.func8 (by kernel_rfl)
    (of_decide_eq_true (by kernel_rfl)) (by unfold Func.isWrapper; rw [if_neg (of_decide_eq_false (by kernel_rfl))]; exact ⟨rfl, rfl⟩)
    (fun os started H enc _ => exactReplace_lifted os started H enc)
end Go.Proofs.Ytnhipiafnijdnaa
