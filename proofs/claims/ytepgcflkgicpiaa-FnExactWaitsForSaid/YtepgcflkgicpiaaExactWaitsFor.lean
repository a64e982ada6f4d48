/-
  FnExactWaitsFor answers true at all locks, and its argument reads as it did. No condition.
-/
import Derived.Test.YtepgcflkgicpiaaEdgeMarks
import Derived.Test.YtepgcflkgicpiaaEdgeS2
import Derived.Test.YtepgcflkgicpiaaEdgeI
import Derived.Test.YtepgcflkgicpiaaLawKit
import Derived.Test.YtepgcflkgicpiaaPost
import Derived.Test.YtepgcflkgicpiaaOpen
import Derived.Test.YtepgcflkgicpiaaOpenLocks
namespace Go.Proofs.Ytepgcflkgicpiaa
open Go.ChangeShapes Go.WideShapes Go.ChangeAt Go.RowKit

set_option maxHeartbeats 16000000 in
set_option maxRecDepth 100000 in
theorem exactWaitsFor_walk (A : Option Addr) (c : Nat) (h : HS) (K : Option Addr) (d : Nat) (l : HS) (w : World) (hr : RH w w.heap.size A h) (hf : FitsH h) (hn : h.length ≤ maxLen) (hk : RH w w.heap.size K l) (hg : FitsH l) (hm : l.length ≤ maxLen) :
    Calls Try.prog 4 #[.agg #[.slice A h.length c, .slice K l.length d]] w fun e w' => e = .returned (.bool true) ∧ Below w.heap.size w w' := by
  have HLEN := hid (waitsR_len h l)
  have hb0 : Below w.heap.size w (w.alloc (.cells #[.slice A h.length c, .slice K l.length d] 24)) := (Below.refl _ _).alloc (Nat.le_refl _) _
  have hx0 := Row2.lit w 24 (.slice A h.length c) (.slice K l.length d)
  have HB0 := hid hb0
  have X := hid hx0
  have HR := hid ((hr.below hb0).more hb0.size)
  have HK := hid ((hk.below hb0).more hb0.size)
  have HF := hid hf
  have HG := hid hg
  have HN := hid hn
  have HM := hid hm
  clear hr hf hn hk hm hg hb0 hx0
  go_enter Try.func4, Try.ntmps4
  go_wp2_with fail
  generalize hgq : w.alloc (.cells #[.slice A h.length c, .slice K l.length d] 24) = w0 at *
  clear hgq
  refine (szLocks_any A c h K d l 1048576 _ HR.out HF.out HN.out HK.out HG.out HM.out (by omega) (by omega)).mono ?_
  rintro e w1 ⟨r, rfl, _, _, hr3, hb⟩
  have C0_1 := hid (hb)
  have hs1 : w0.heap.size ≤ w1.heap.size := hb.size
  have HZ := hid hr3
  clear hr3 hb
  by_cases hneg : r < 0
  · have b0a := Row2.c0 (X.out.below C0_1.out)
    have b0b := Row2.c1 (X.out.below C0_1.out)
    go_wp2_with fail
    go_ret
    exact ⟨rfl, HB0.out.trans (C0_1.out.mono HB0.out.size)⟩
  have hz := HZ.out (by omega)
  have hps : h.length ≤ 1048576 := by omega
  have hks : l.length ≤ 1048576 := by omega
  have b0a := Row2.c0 (X.out.below C0_1.out)
  have b0b := Row2.c1 (X.out.below C0_1.out)
  go_wp2_with fail
  clear b0a b0b
  refine (toLocks_any A c h K d l _ ((HR.out.below C0_1.out).more C0_1.out.size) hps ((HK.out.below C0_1.out).more C0_1.out.size) hks).mono ?_
  rintro e w2 ⟨A2, c2, K2, d2, B2, rfl, hp, hi, hBB, hlt, hb⟩
  have C0_2 := hid (C0_1.out.trans (hb.mono C0_1.out.size))
  have hs2 : w1.heap.size ≤ w2.heap.size := hb.size
  have P2 := hid hp
  have I2 := hid hi
  have BB2 := hid hBB
  have LT2 := hid hlt
  clear hp hi hBB hlt hb
  have b0a := Row2.c0 (X.out.below C0_2.out)
  have b0b := Row2.c1 (X.out.below C0_2.out)
  go_wp2_with fail
  clear b0a b0b
  refine (spec_WaitsFor A2 c2 h K2 d2 l _ P2.out.rh HF.out HN.out I2.out.rh HG.out HM.out).mono ?_
  rintro e w3 ⟨b3, o3, c3, rfl, hre, hc3, hc4, hb⟩
  have C0_3 := hid (C0_2.out.trans (hb.mono C0_2.out.size))
  have C2_3 := hid (hb)
  have hs3 : w2.heap.size ≤ w3.heap.size := hb.size
  have R3 := hid hre
  clear hre hc3 hc4 hb
  have b0a := Row2.c0 (X.out.below C0_3.out)
  have b0b := Row2.c1 (X.out.below C0_3.out)
  go_wp2_with fail
  clear b0a b0b
  refine (toLocks_any A c h K d l _ ((HR.out.below C0_3.out).more C0_3.out.size) hps ((HK.out.below C0_3.out).more C0_3.out.size) hks).mono ?_
  rintro e w4 ⟨A4, c4, K4, d4, B4, rfl, hp, hi, hBB, hlt, hb⟩
  have C0_4 := hid (C0_3.out.trans (hb.mono C0_3.out.size))
  have C2_4 := hid (C2_3.out.trans (hb.mono C2_3.out.size))
  have C3_4 := hid (hb)
  have hs4 : w3.heap.size ≤ w4.heap.size := hb.size
  have P4 := hid hp
  have I4 := hid hi
  have BB4 := hid hBB
  have LT4 := hid hlt
  clear hp hi hBB hlt hb
  have hbq : Below w4.heap.size w4 (w4.alloc (.cells #[.slice A4 h.length c4, .slice K4 l.length d4] 28)) := (Below.refl _ _).alloc (Nat.le_refl _) _
  have hyq := Row2.lit w4 28 (.slice A4 h.length c4) (.slice K4 l.length d4)
  have b0a := Row2.c0 (X.out.below C0_4.out)
  have b0b := Row2.c1 (X.out.below C0_4.out)
  have d0a := Row2.c0 (Row2.below (X.out.below C0_4.out) hbq)
  have d0b := Row2.c1 (Row2.below (X.out.below C0_4.out) hbq)
  go_wp2_with fail
  clear b0a b0b
  clear d0a d0b
  generalize hgq : w4.alloc (.cells #[.slice A4 h.length c4, .slice K4 l.length d4] 28) = w5 at *
  clear hgq
  have C0_5 := hid (C0_4.out.trans (hbq.mono C0_4.out.size))
  have C2_5 := hid (C2_4.out.trans (hbq.mono C2_4.out.size))
  have C3_5 := hid (C3_4.out.trans (hbq.mono C3_4.out.size))
  have C4_5 := hid (hbq)
  have hs5 : w4.heap.size ≤ w5.heap.size := hbq.size
  have Y := hid hyq
  clear hyq hbq
  refine (impl_WaitsFor _ _ h _ _ l _ (P4.out.below C4_5.out).rh HF.out (P4.out.below C4_5.out).cap.1 (P4.out.below C4_5.out).cap.2 (I4.out.below C4_5.out).rh HG.out (I4.out.below C4_5.out).cap.1 (I4.out.below C4_5.out).cap.2).mono ?_
  rintro e w6 ⟨A6, c6, rfl, ho, hb⟩
  have C0_6 := hid (C0_5.out.trans (hb.mono C0_5.out.size))
  have C2_6 := hid (C2_5.out.trans (hb.mono C2_5.out.size))
  have C3_6 := hid (C3_5.out.trans (hb.mono C3_5.out.size))
  have C4_6 := hid (C4_5.out.trans (hb.mono C4_5.out.size))
  have C5_6 := hid (hb)
  have hs6 : w5.heap.size ≤ w6.heap.size := hb.size
  have E6 := hid ho
  clear ho hb
  have b0a := Row2.c0 (X.out.below C0_6.out)
  have b0b := Row2.c1 (X.out.below C0_6.out)
  have b1a := Row2.c0 (Y.out.below C5_6.out)
  have b1b := Row2.c1 (Y.out.below C5_6.out)
  go_wp2_with fail
  clear b0a b0b b1a b1b
  refine (eqEdgeS_same A6 (some ⟨b3, o3, none⟩) c6 c3 (waitsR h l) _ E6.out.re ((R3.out.below C3_6.out).more C3_6.out.size) (by have := HLEN.out; unfold maxLen; omega)).mono ?_
  rintro e w7 ⟨rfl, hb⟩
  have C0_7 := hid (C0_6.out.trans (hb.mono C0_6.out.size))
  have C2_7 := hid (C2_6.out.trans (hb.mono C2_6.out.size))
  have C3_7 := hid (C3_6.out.trans (hb.mono C3_6.out.size))
  have C4_7 := hid (C4_6.out.trans (hb.mono C4_6.out.size))
  have C5_7 := hid (C5_6.out.trans (hb.mono C5_6.out.size))
  have C6_7 := hid (hb)
  have hs7 : w6.heap.size ≤ w7.heap.size := hb.size
  clear hb
  have X6 := hid (X.out.below C0_7.out)
  have Y6 := hid (Y.out.below C5_7.out)
  have HB6 := hid C0_7.out
  have HP6 := hid (P4.out.below C4_7.out)
  have HI6 := hid (I4.out.below C4_7.out)
  have c1 : ∀ dq os, Calls Try.prog 17 #[.agg #[.slice A h.length c, .slice K l.length d]] (Go.Sort.grow (redrawn w7 dq) os) (MadeLk (Go.Sort.grow (redrawn w7 dq) os) (Go.Sort.grow (redrawn w7 dq) os).heap.size h l) := fun dq os => toLocks_any A c h K d l _ ((HR.out.below (HB6.out.trans ((below_regrown w7 dq os).mono HB6.out.size))).more (HB6.out.trans ((below_regrown w7 dq os).mono HB6.out.size)).size) hps ((HK.out.below (HB6.out.trans ((below_regrown w7 dq os).mono HB6.out.size))).more (HB6.out.trans ((below_regrown w7 dq os).mono HB6.out.size)).size) hks
  have b0a := Row2.c0 (X.out.below C0_7.out)
  have b0b := Row2.c1 (X.out.below C0_7.out)
  have b1a := Row2.c0 (Y.out.below C5_7.out)
  have b1b := Row2.c1 (Y.out.below C5_7.out)
  go_wp2_with fail
  go_region_held3 (fun w' => w'.cell? ⟨w.heap.size, 0, none⟩ = some (.slice A h.length c) ∧ w'.cell? ⟨w.heap.size, 1, none⟩ = some (.slice K l.length d) ∧
      w'.cell? ⟨w4.heap.size, 0, none⟩ = some (.slice A4 h.length c4) ∧ w'.cell? ⟨w4.heap.size, 1, none⟩ = some (.slice K4 l.length d4)) (go_keep)
    (first
      | (go_at_call 17; refine (toLocks_any A c h K d l _ ((HR.out.below HB6.out.drew).more HB6.out.drew.size) hps ((HK.out.below HB6.out.drew).more HB6.out.drew.size) hks).mono ?_; rintro e w107 ⟨Aq, cq, Kq, dq, Bq, rfl, hp7, hi7, _, _, hb7⟩; have X7 := hid ((X6.out.below (Below.refl _ _).drew).below hb7); have Y7 := hid ((Y6.out.below (Below.refl _ _).drew).below hb7); have HP7 := hid hp7; have HI7 := hid hi7; have HQ7 := hid ((HP6.out.below (Below.refl _ _).drew).below hb7); have HJ7 := hid ((HI6.out.below (Below.refl _ _).drew).below hb7); have hbr := (Below.refl w7.heap.size w7).drew.trans hb7; have HB7 := hid hbr; clear hp7 hi7 hb7 hbr; have x70 := X7.out.c0; have x71 := X7.out.c1; have y70 := Y7.out.c0; have y71 := Y7.out.c1)
      | (go_at_call 19; refine (eqLocks_same A4 c4 h K4 d4 l Aq cq Kq dq _ HQ7.out.rh HN.out HJ7.out.rh HM.out HP7.out.rh HI7.out.rh).mono ?_; rintro e w8 ⟨rfl, hb8⟩; have X8 := hid (X7.out.below hb8); have Y8 := hid (Y7.out.below hb8); have HB8 := hid (HB7.out.trans (hb8.mono HB7.out.size)); clear hb8; have x80 := X8.out.c0; have x81 := X8.out.c1; have y80 := Y8.out.c0; have y81 := Y8.out.c1)
      | (go_at_call 19; refine (eqLocks_same A4 c4 h K4 d4 l Aq cq Kq dq _ (HQ7.out.below (Below.refl _ _).drew).rh HN.out (HJ7.out.below (Below.refl _ _).drew).rh HM.out (HP7.out.below (Below.refl _ _).drew).rh (HI7.out.below (Below.refl _ _).drew).rh).mono ?_; rintro e w8 ⟨rfl, hb8⟩; have X8 := hid ((X7.out.below (Below.refl _ _).drew).below hb8); have Y8 := hid ((Y7.out.below (Below.refl _ _).drew).below hb8); have HB8 := hid (HB7.out.drew.trans (hb8.mono HB7.out.size)); clear hb8; have x80 := X8.out.c0; have x81 := X8.out.c1; have y80 := Y8.out.c0; have y81 := Y8.out.c1))
  have hbr := HB8.out
  clear x70 x71 y70 y71 x80 x81 y80 y81 c1
  clear b0a b0b b1a b1b
  have C0_8 := hid (C0_7.out.trans (hbr.mono C0_7.out.size))
  have C2_8 := hid (C2_7.out.trans (hbr.mono C2_7.out.size))
  have C3_8 := hid (C3_7.out.trans (hbr.mono C3_7.out.size))
  have C4_8 := hid (C4_7.out.trans (hbr.mono C4_7.out.size))
  have C5_8 := hid (C5_7.out.trans (hbr.mono C5_7.out.size))
  have C6_8 := hid (C6_7.out.trans (hbr.mono C6_7.out.size))
  have hs8 : w7.heap.size ≤ w8.heap.size := hbr.size
  clear hbr
  have XA5 := hid P4.out.size
  have XK5 := hid I4.out.size
  have bb5 := BB4.out
  have b0a := Row2.c0 (X.out.below C0_8.out)
  have b0b := Row2.c1 (X.out.below C0_8.out)
  have b1a := Row2.c0 (Y.out.below C5_8.out)
  have b1b := Row2.c1 (Y.out.below C5_8.out)
  go_wp2_with fail
  clear b0a b0b b1a b1b
  refine (markLocks_any w3.heap.size A4 c4 h K4 d4 l 1 _ (P4.out.below C4_8.out) (OwnH.mono (I4.out.below C4_8.out) BB4.out) (fun q h1 h2 => by have := LT4.out q h1; have := (XK5.out q h2).1; omega) (by omega) (by omega) (by omega)).mono ?_
  rintro e w9 ⟨rfl, _, _, hg⟩
  have GE := hid E6.out.size
  have N6 := hid (show OwnE w9 _ A6 c6 _ from own_keep2 (E6.out.below C6_8.out) hg (fun q hq e => by have := (GE.out q hq).1; have := (XA5.out q e.symm).2; omega) (fun q hq e => by have := (GE.out q hq).1; have := (XK5.out q e.symm).2; omega))
  have hs9 : w8.heap.size ≤ w9.heap.size := hg.size
  have C0_9 := hid (Grown2.below C0_8.out (hg) C0_8.out.size (fun q hq => by have := XA5.out q hq; omega) (fun q hq => by have := XK5.out q hq; omega))
  have C3_9 := hid (Grown2.below C3_8.out (hg) C3_8.out.size (fun q hq => by have := XA5.out q hq; omega) (fun q hq => by have := XK5.out q hq; omega))
  clear hg
  have b0a := Row2.c0 (X.out.below C0_9.out)
  have b0b := Row2.c1 (X.out.below C0_9.out)
  go_wp2_with fail
  clear b0a b0b
  refine (eqEdgeS_same A6 (some ⟨b3, o3, none⟩) c6 c3 (waitsR h l) _ N6.out.re ((R3.out.below C3_9.out).more C3_9.out.size) (by have := HLEN.out; unfold maxLen; omega)).mono ?_
  rintro e w10 ⟨rfl, hb⟩
  have C0_10 := hid (C0_9.out.trans (hb.mono C0_9.out.size))
  have C3_10 := hid (C3_9.out.trans (hb.mono C3_9.out.size))
  have C9_10 := hid (hb)
  have hs10 : w9.heap.size ≤ w10.heap.size := hb.size
  clear hb
  have b0a := Row2.c0 (X.out.below C0_10.out)
  have b0b := Row2.c1 (X.out.below C0_10.out)
  go_wp2_with fail
  clear b0a b0b
  refine (markEdgeS_any _ A6 c6 (waitsR h l) 1 _ (N6.out.below C9_10.out) (by have := HLEN.out; omega) (by omega)).mono ?_
  rintro e w11 ⟨rfl, hoi, hg⟩
  have M7 := hid hoi
  have hs11 : w10.heap.size ≤ w11.heap.size := hg.size
  have C0_11 := hid (Grown2.below C0_10.out (grown2_one hg) C0_10.out.size (fun q hq => by have := GE.out q hq; omega) (fun q hq => by cases hq))
  have C3_11 := hid (Grown2.below C3_10.out (grown2_one hg) C3_10.out.size (fun q hq => by have := GE.out q hq; omega) (fun q hq => by cases hq))
  clear hg hoi
  have q1 : ¬ ((1 + 2 * (waitsR h l).length : Nat) : Int) < 0 := by omega
  have q3 : (((1 + 2 * (waitsR h l).length : Nat) : Int) != ((1 + 2 * (waitsR h l).length : Nat) : Int)) = false := by simp
  have b0a := Row2.c0 (X.out.below C0_11.out)
  have b0b := Row2.c1 (X.out.below C0_11.out)
  go_wp2_with fail
  clear b0a b0b
  refine (heldEdgeS_any A6 c6 (waitsR h l).length 1 _ M7.out.re (by have := HLEN.out; omega) (by omega)).mono ?_
  rintro e w12 ⟨rfl, hb⟩
  have C0_12 := hid (C0_11.out.trans (hb.mono C0_11.out.size))
  have C3_12 := hid (C3_11.out.trans (hb.mono C3_11.out.size))
  have C11_12 := hid (hb)
  have hs12 : w11.heap.size ≤ w12.heap.size := hb.size
  clear hb
  have b0a := Row2.c0 (X.out.below C0_12.out)
  have b0b := Row2.c1 (X.out.below C0_12.out)
  go_wp2_with fail
  clear b0a b0b
  refine (toLocks_any A c h K d l _ ((HR.out.below C0_12.out).more C0_12.out.size) hps ((HK.out.below C0_12.out).more C0_12.out.size) hks).mono ?_
  rintro e w13 ⟨A20, c20, K20, d20, B20, rfl, hp, hi, hBB, hlt, hb⟩
  have C0_13 := hid (C0_12.out.trans (hb.mono C0_12.out.size))
  have C3_13 := hid (C3_12.out.trans (hb.mono C3_12.out.size))
  have C11_13 := hid (C11_12.out.trans (hb.mono C11_12.out.size))
  have hs13 : w12.heap.size ≤ w13.heap.size := hb.size
  have P20 := hid hp
  have I20 := hid hi
  have BB20 := hid hBB
  have LT20 := hid hlt
  clear hp hi hBB hlt hb
  have b0a := Row2.c0 (X.out.below C0_13.out)
  have b0b := Row2.c1 (X.out.below C0_13.out)
  go_wp2_with fail
  clear b0a b0b
  refine (impl_WaitsFor _ _ h _ _ l _ P20.out.rh HF.out P20.out.cap.1 P20.out.cap.2 I20.out.rh HG.out I20.out.cap.1 I20.out.cap.2).mono ?_
  rintro e w14 ⟨A21, c21, rfl, ho, hb⟩
  have C0_14 := hid (C0_13.out.trans (hb.mono C0_13.out.size))
  have C3_14 := hid (C3_13.out.trans (hb.mono C3_13.out.size))
  have C11_14 := hid (C11_13.out.trans (hb.mono C11_13.out.size))
  have C13_14 := hid (hb)
  have hs14 : w13.heap.size ≤ w14.heap.size := hb.size
  have E21 := hid ho
  clear ho hb
  have b0a := Row2.c0 (X.out.below C0_14.out)
  have b0b := Row2.c1 (X.out.below C0_14.out)
  go_wp2_with fail
  clear b0a b0b
  refine (eqEdgeS_same A21 (some ⟨b3, o3, none⟩) c21 c3 (waitsR h l) _ E21.out.re ((R3.out.below C3_14.out).more C3_14.out.size) (by have := HLEN.out; unfold maxLen; omega)).mono ?_
  rintro e w15 ⟨rfl, hb⟩
  have C0_15 := hid (C0_14.out.trans (hb.mono C0_14.out.size))
  have C3_15 := hid (C3_14.out.trans (hb.mono C3_14.out.size))
  have C11_15 := hid (C11_14.out.trans (hb.mono C11_14.out.size))
  have C13_15 := hid (C13_14.out.trans (hb.mono C13_14.out.size))
  have C14_15 := hid (hb)
  have hs15 : w14.heap.size ≤ w15.heap.size := hb.size
  clear hb
  have b0a := Row2.c0 (X.out.below C0_15.out)
  have b0b := Row2.c1 (X.out.below C0_15.out)
  go_wp2_with fail
  clear b0a b0b
  refine (heldEdgeS_any A6 c6 (waitsR h l).length 1 _ (M7.out.below C11_15.out).re (by have := HLEN.out; omega) (by omega)).mono ?_
  rintro e w16 ⟨rfl, hb⟩
  have C0_16 := hid (C0_15.out.trans (hb.mono C0_15.out.size))
  have C3_16 := hid (C3_15.out.trans (hb.mono C3_15.out.size))
  have C11_16 := hid (C11_15.out.trans (hb.mono C11_15.out.size))
  have C13_16 := hid (C13_15.out.trans (hb.mono C13_15.out.size))
  have C14_16 := hid (C14_15.out.trans (hb.mono C14_15.out.size))
  have hs16 : w15.heap.size ≤ w16.heap.size := hb.size
  clear hb
  have b0a := Row2.c0 (X.out.below C0_16.out)
  have b0b := Row2.c1 (X.out.below C0_16.out)
  go_wp2_with fail
  go_ret
  exact ⟨rfl, HB0.out.trans (C0_16.out.mono HB0.out.size)⟩

set_option maxRecDepth 100000 in
theorem exactWaitsFor_lifted (os : Os) (started : os.Started) (H : Type) (enc : TypeId × Value → H) :
    ReturnsInHanded {} Try.checked os 4 .any (Rows.fnExactWaitsForSpec.pre6 enc Try.prog Try.f4 Rows.fnExactWaitsForRow.domain false) (Rows.fnExactWaitsForSpec.post enc Try.prog Try.f4 false true false false) := by
  refine returnsInHanded_of_change (C := Try.checked) own started (by kernel_rfl) Try.func4
    (ChangeSpec.witness6 (enc := enc) (C := Try.checked) false ⟨#[], #[.agg #[.slice none 0 0, .slice none 0 0]], []⟩ 8 (by kernel_rfl) (by kernel_rfl) (by kernel_rfl) (by kernel_rfl)) ?_
  intro W base args ds gs before hval hW _ _
  have hW' := hW
  obtain ⟨p, q, hA0, hV, rfl, hfz, hnd⟩ := hW
  have hA : DataW.TrodAll enc Try.prog W 0 (fun _ => true) true Try.f4.params.toList args.toList ds p := hA0
  rw [Try.params4] at hA hval
  obtain ⟨v0, vs0, d0, ds0, p0, q0, hargs, rfl, rfl, h0, r0⟩ := trodAll_cons hA
  obtain ⟨rfl, rfl, rfl⟩ := trodAll_nil r0
  obtain rfl : args = #[v0] := by cases args; simp_all
  clear hargs
  obtain ⟨A0, c0, h, K0, e0, l, rfl, rr0, f0, n0, ri0, g0, m0⟩ := open_locks (hval 0 24 v0 rfl rfl) h0
  refine (exactWaitsFor_walk A0 c0 h K0 e0 l W rr0 f0 n0 ri0 g0 m0).mono fun e W' ⟨he, hw⟩ => ?_
  subst he
  exact ⟨_, rfl, law_post (tb := 4) laidOut (by kernel_rfl) rfl hW' Try.underlying4 (by kernel_rfl) (fun gs' e => by subst e; rfl) hw⟩

theorem exactWaitsFor_holds : Rows.FnExactWaitsForSaid :=
  OpenClaim.holds_of_wide 4 Try.f4 rfl rfl rfl rfl rfl rfl rfl ⟨rfl, rfl, rfl, rfl, rfl⟩ rfl rfl rfl rfl rfl (by kernel_rfl) Try.func4 (by kernel_rfl)
    (of_decide_eq_true (by kernel_rfl)) (by unfold Func.isWrapper; rw [if_neg (of_decide_eq_false (by kernel_rfl))]; exact ⟨rfl, rfl⟩)
    (fun os started H enc _ => exactWaitsFor_lifted os started H enc)
end Go.Proofs.Ytepgcflkgicpiaa
