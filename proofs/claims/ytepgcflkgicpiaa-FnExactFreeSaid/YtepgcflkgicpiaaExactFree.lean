/-
  FnExactFree answers true at all locks and transactions, and its arguments read as they did. No condition.
-/
import Derived.Test.YtepgcflkgicpiaaLockMarks
import Derived.Test.YtepgcflkgicpiaaFreeS5
import Derived.Test.YtepgcflkgicpiaaFreeI5
import Derived.Test.YtepgcflkgicpiaaLawKit
import Derived.Test.YtepgcflkgicpiaaPost
import Derived.Test.YtepgcflkgicpiaaOpen
import Derived.Test.YtepgcflkgicpiaaOpenLocks
namespace Go.Proofs.Ytepgcflkgicpiaa
open Go.ChangeShapes Go.WideShapes Go.ChangeAt Go.RowKit

theorem exactFree_len (t : Int) (h l : HS) : Hid ((freeR h l t).1.length ≤ 1000 ∧ (freeR h l t).2.1.length ≤ 1000 ∧ (freeR h l t).2.2.length ≤ 1000) := by
  unfold freeR
  split
  · rename_i hlk
    have hL := locksB_iff.1 hlk
    have h1 := goneL_len h t
    have h2 := goneL_len l t
    have h3 := wakeF_len (goneL l t).length (goneL h t) (goneL l t) []
    simp only [List.length_nil] at h3
    refine ⟨?_, ?_, ?_⟩ <;> (unfold freeL; omega)
  · exact ⟨by simp, by simp, by simp⟩

set_option maxHeartbeats 16000000 in
set_option maxRecDepth 100000 in
theorem exactFree_walk (A : Option Addr) (c : Nat) (h : HS) (K : Option Addr) (d : Nat) (l : HS) (t : Int) (w : World) (hr : RH w w.heap.size A h) (hf : FitsH h) (hn : h.length ≤ maxLen) (hk : RH w w.heap.size K l) (hg : FitsH l) (hm : l.length ≤ maxLen) :
    Calls Try.prog 3 #[.agg #[.slice A h.length c, .slice K l.length d], .int .i64 t] w fun e w' => e = .returned (.bool true) ∧ Below w.heap.size w w' := by
  have HLEN := exactFree_len t h l
  have hb0 : Below w.heap.size w (w.alloc (.cells #[.slice A h.length c, .slice K l.length d] 24)) := (Below.refl _ _).alloc (Nat.le_refl _) _
  have hx0 := Row2.lit w 24 (.slice A h.length c) (.slice K l.length d)
  have HB0 := hid hb0
  have X := hid hx0
  have HR := hid ((hr.below hb0).more hb0.size)
  have HK := hid ((hk.below hb0).more hb0.size)
  have HF := hid hf
  have HG := hid hg
  have HN := hid hn
  have HM := hid hm
  clear hr hf hn hk hm hg hb0 hx0
  go_enter Try.func3, Try.ntmps3
  go_wp2_with fail
  generalize hgq : w.alloc (.cells #[.slice A h.length c, .slice K l.length d] 24) = w0 at *
  clear hgq
  refine (szLocks_any A c h K d l 1048576 _ HR.out HF.out HN.out HK.out HG.out HM.out (by omega) (by omega)).mono ?_
  rintro e w1 ⟨r, rfl, _, _, hr3, hb⟩
  have C0_1 := hid (hb)
  have hs1 : w0.heap.size ≤ w1.heap.size := hb.size
  have HZ := hid hr3
  clear hr3 hb
  by_cases hneg : r < 0
  · have b0a := Row2.c0 (X.out.below C0_1.out)
    have b0b := Row2.c1 (X.out.below C0_1.out)
    go_wp2_with fail
    go_ret
    exact ⟨rfl, HB0.out.trans (C0_1.out.mono HB0.out.size)⟩
  have hz := HZ.out (by omega)
  have hps : h.length ≤ 1048576 := by omega
  have hks : l.length ≤ 1048576 := by omega
  have b0a := Row2.c0 (X.out.below C0_1.out)
  have b0b := Row2.c1 (X.out.below C0_1.out)
  go_wp2_with fail
  clear b0a b0b
  refine (toLocks_any A c h K d l _ ((HR.out.below C0_1.out).more C0_1.out.size) hps ((HK.out.below C0_1.out).more C0_1.out.size) hks).mono ?_
  rintro e w2 ⟨A2, c2, K2, d2, B2, rfl, hp, hi, hBB, hlt, hb⟩
  have C0_2 := hid (C0_1.out.trans (hb.mono C0_1.out.size))
  have hs2 : w1.heap.size ≤ w2.heap.size := hb.size
  have P2 := hid hp
  have I2 := hid hi
  have BB2 := hid hBB
  have LT2 := hid hlt
  clear hp hi hBB hlt hb
  have b0a := Row2.c0 (X.out.below C0_2.out)
  have b0b := Row2.c1 (X.out.below C0_2.out)
  go_wp2_with fail
  clear b0a b0b
  refine (spec_Free A2 c2 h K2 d2 l t _ P2.out.rh HF.out HN.out I2.out.rh HG.out HM.out).mono ?_
  rintro e w3 ⟨A3, c3, K3, d3, W3, e3, rfl, hp, hi, hw, hb⟩
  have C0_3 := hid (C0_2.out.trans (hb.mono C0_2.out.size))
  have C2_3 := hid (hb)
  have hs3 : w2.heap.size ≤ w3.heap.size := hb.size
  have R3a := hid hp
  have R3b := hid hi
  have R3c := hid hw
  clear hp hi hw hb
  have hbq : Below w3.heap.size w3 (w3.alloc (.cells #[.slice A3 (freeR h l t).1.length c3, .slice K3 (freeR h l t).2.1.length d3] 28)) := (Below.refl _ _).alloc (Nat.le_refl _) _
  have hyq := Row2.lit w3 28 (.slice A3 (freeR h l t).1.length c3) (.slice K3 (freeR h l t).2.1.length d3)
  have b0a := Row2.c0 (X.out.below C0_3.out)
  have b0b := Row2.c1 (X.out.below C0_3.out)
  have d0a := Row2.c0 (Row2.below (X.out.below C0_3.out) hbq)
  have d0b := Row2.c1 (Row2.below (X.out.below C0_3.out) hbq)
  go_wp2_with fail
  clear b0a b0b
  clear d0a d0b
  generalize hgq : w3.alloc (.cells #[.slice A3 (freeR h l t).1.length c3, .slice K3 (freeR h l t).2.1.length d3] 28) = w4 at *
  clear hgq
  have C0_4 := hid (C0_3.out.trans (hbq.mono C0_3.out.size))
  have C2_4 := hid (C2_3.out.trans (hbq.mono C2_3.out.size))
  have C3_4 := hid (hbq)
  have hs4 : w3.heap.size ≤ w4.heap.size := hbq.size
  have Z := hid hyq
  clear hyq hbq
  refine (toLocks_any A c h K d l _ ((HR.out.below C0_4.out).more C0_4.out.size) hps ((HK.out.below C0_4.out).more C0_4.out.size) hks).mono ?_
  rintro e w5 ⟨A5, c5, K5, d5, B5, rfl, hp, hi, hBB, hlt, hb⟩
  have C0_5 := hid (C0_4.out.trans (hb.mono C0_4.out.size))
  have C2_5 := hid (C2_4.out.trans (hb.mono C2_4.out.size))
  have C3_5 := hid (C3_4.out.trans (hb.mono C3_4.out.size))
  have C4_5 := hid (hb)
  have hs5 : w4.heap.size ≤ w5.heap.size := hb.size
  have P5 := hid hp
  have I5 := hid hi
  have BB5 := hid hBB
  have LT5 := hid hlt
  clear hp hi hBB hlt hb
  have hbq : Below w5.heap.size w5 (w5.alloc (.cells #[.slice A5 h.length c5, .slice K5 l.length d5] 28)) := (Below.refl _ _).alloc (Nat.le_refl _) _
  have hyq := Row2.lit w5 28 (.slice A5 h.length c5) (.slice K5 l.length d5)
  have b0a := Row2.c0 (X.out.below C0_5.out)
  have b0b := Row2.c1 (X.out.below C0_5.out)
  have d0a := Row2.c0 (Row2.below (X.out.below C0_5.out) hbq)
  have d0b := Row2.c1 (Row2.below (X.out.below C0_5.out) hbq)
  have b1a := Row2.c0 (Z.out.below C4_5.out)
  have b1b := Row2.c1 (Z.out.below C4_5.out)
  have d1a := Row2.c0 (Row2.below (Z.out.below C4_5.out) hbq)
  have d1b := Row2.c1 (Row2.below (Z.out.below C4_5.out) hbq)
  go_wp2_with fail
  clear b0a b0b b1a b1b
  clear d0a d0b d1a d1b
  generalize hgq : w5.alloc (.cells #[.slice A5 h.length c5, .slice K5 l.length d5] 28) = w6 at *
  clear hgq
  have C0_6 := hid (C0_5.out.trans (hbq.mono C0_5.out.size))
  have C2_6 := hid (C2_5.out.trans (hbq.mono C2_5.out.size))
  have C3_6 := hid (C3_5.out.trans (hbq.mono C3_5.out.size))
  have C4_6 := hid (C4_5.out.trans (hbq.mono C4_5.out.size))
  have C5_6 := hid (hbq)
  have hs6 : w5.heap.size ≤ w6.heap.size := hbq.size
  have Y := hid hyq
  clear hyq hbq
  refine (impl_Free _ _ h _ _ l t _ (P5.out.below C5_6.out).rh HF.out (P5.out.below C5_6.out).cap.1 (P5.out.below C5_6.out).cap.2 (I5.out.below C5_6.out).rh HG.out (I5.out.below C5_6.out).cap.1 (I5.out.below C5_6.out).cap.2).mono ?_
  rintro e w7 ⟨A7, c7, K7, d7, W7, e7, rfl, hp, hi, hw, hne, hb⟩
  have C0_7 := hid (C0_6.out.trans (hb.mono C0_6.out.size))
  have C2_7 := hid (C2_6.out.trans (hb.mono C2_6.out.size))
  have C3_7 := hid (C3_6.out.trans (hb.mono C3_6.out.size))
  have C4_7 := hid (C4_6.out.trans (hb.mono C4_6.out.size))
  have C5_7 := hid (C5_6.out.trans (hb.mono C5_6.out.size))
  have C6_7 := hid (hb)
  have hs7 : w6.heap.size ≤ w7.heap.size := hb.size
  have G7a := hid hp
  have G7b := hid hi
  have G7c := hid hw
  have G7n := hid hne
  clear hp hi hw hne hb
  have hbq : Below w7.heap.size w7 (w7.alloc (.cells #[.slice A7 (freeR h l t).1.length c7, .slice K7 (freeR h l t).2.1.length d7] 28)) := (Below.refl _ _).alloc (Nat.le_refl _) _
  have hyq := Row2.lit w7 28 (.slice A7 (freeR h l t).1.length c7) (.slice K7 (freeR h l t).2.1.length d7)
  have b0a := Row2.c0 (X.out.below C0_7.out)
  have b0b := Row2.c1 (X.out.below C0_7.out)
  have d0a := Row2.c0 (Row2.below (X.out.below C0_7.out) hbq)
  have d0b := Row2.c1 (Row2.below (X.out.below C0_7.out) hbq)
  have b1a := Row2.c0 (Z.out.below C4_7.out)
  have b1b := Row2.c1 (Z.out.below C4_7.out)
  have d1a := Row2.c0 (Row2.below (Z.out.below C4_7.out) hbq)
  have d1b := Row2.c1 (Row2.below (Z.out.below C4_7.out) hbq)
  have b2a := Row2.c0 (Y.out.below C6_7.out)
  have b2b := Row2.c1 (Y.out.below C6_7.out)
  have d2a := Row2.c0 (Row2.below (Y.out.below C6_7.out) hbq)
  have d2b := Row2.c1 (Row2.below (Y.out.below C6_7.out) hbq)
  go_wp2_with fail
  clear b0a b0b b1a b1b b2a b2b
  clear d0a d0b d1a d1b d2a d2b
  generalize hgq : w7.alloc (.cells #[.slice A7 (freeR h l t).1.length c7, .slice K7 (freeR h l t).2.1.length d7] 28) = w8 at *
  clear hgq
  have C0_8 := hid (C0_7.out.trans (hbq.mono C0_7.out.size))
  have C2_8 := hid (C2_7.out.trans (hbq.mono C2_7.out.size))
  have C3_8 := hid (C3_7.out.trans (hbq.mono C3_7.out.size))
  have C4_8 := hid (C4_7.out.trans (hbq.mono C4_7.out.size))
  have C5_8 := hid (C5_7.out.trans (hbq.mono C5_7.out.size))
  have C6_8 := hid (C6_7.out.trans (hbq.mono C6_7.out.size))
  have C7_8 := hid (hbq)
  have hs8 : w7.heap.size ≤ w8.heap.size := hbq.size
  have GB := hid hyq
  clear hyq hbq
  refine (eqLocks_same A7 c7 (freeR h l t).1 K7 d7 (freeR h l t).2.1 A3 c3 K3 d3 _ (G7a.out.below C7_8.out).rh (by have := HLEN.out; unfold maxLen; omega) (G7b.out.below C7_8.out).rh (by have := HLEN.out; unfold maxLen; omega) ((R3a.out.below C3_8.out).more C3_8.out.size) ((R3b.out.below C3_8.out).more C3_8.out.size)).mono ?_
  rintro e w9 ⟨rfl, hb⟩
  have C0_9 := hid (C0_8.out.trans (hb.mono C0_8.out.size))
  have C2_9 := hid (C2_8.out.trans (hb.mono C2_8.out.size))
  have C3_9 := hid (C3_8.out.trans (hb.mono C3_8.out.size))
  have C4_9 := hid (C4_8.out.trans (hb.mono C4_8.out.size))
  have C5_9 := hid (C5_8.out.trans (hb.mono C5_8.out.size))
  have C6_9 := hid (C6_8.out.trans (hb.mono C6_8.out.size))
  have C7_9 := hid (C7_8.out.trans (hb.mono C7_8.out.size))
  have C8_9 := hid (hb)
  have hs9 : w8.heap.size ≤ w9.heap.size := hb.size
  clear hb
  have ht : decide ((freeR h l t).2.2 = (freeR h l t).2.2) = true := by simp
  have b0a := Row2.c0 (X.out.below C0_9.out)
  have b0b := Row2.c1 (X.out.below C0_9.out)
  have b1a := Row2.c0 (Z.out.below C4_9.out)
  have b1b := Row2.c1 (Z.out.below C4_9.out)
  have b2a := Row2.c0 (Y.out.below C6_9.out)
  have b2b := Row2.c1 (Y.out.below C6_9.out)
  have b3a := Row2.c0 (GB.out.below C8_9.out)
  have b3b := Row2.c1 (GB.out.below C8_9.out)
  go_wp2_with fail
  clear b0a b0b b1a b1b b2a b2b b3a b3b
  refine (eqInt64S_any W7 W3 e7 e3 (freeR h l t).2.2 (freeR h l t).2.2 w9.heap.size _ (G7c.out.below C7_9.out).ri ((R3c.out.below C3_9.out).more C3_9.out.size) (by have := HLEN.out; unfold maxLen; omega)).mono ?_
  rintro e w10 ⟨rfl, hdr⟩
  have hb := hdr.below w9.heap.size
  have C0_10 := hid (C0_9.out.trans (hb.mono C0_9.out.size))
  have C2_10 := hid (C2_9.out.trans (hb.mono C2_9.out.size))
  have C3_10 := hid (C3_9.out.trans (hb.mono C3_9.out.size))
  have C4_10 := hid (C4_9.out.trans (hb.mono C4_9.out.size))
  have C5_10 := hid (C5_9.out.trans (hb.mono C5_9.out.size))
  have C6_10 := hid (C6_9.out.trans (hb.mono C6_9.out.size))
  have C7_10 := hid (C7_9.out.trans (hb.mono C7_9.out.size))
  have C8_10 := hid (C8_9.out.trans (hb.mono C8_9.out.size))
  have hs10 : w9.heap.size ≤ w10.heap.size := hb.size
  clear hb hdr ht
  have X6 := hid (X.out.below C0_10.out)
  have Y6 := hid (Y.out.below C6_10.out)
  have HB6 := hid C0_10.out
  have HP6 := hid (P5.out.below C5_10.out)
  have HI6 := hid (I5.out.below C5_10.out)
  have c1 : ∀ dq os, Calls Try.prog 17 #[.agg #[.slice A h.length c, .slice K l.length d]] (Go.Sort.grow (redrawn w10 dq) os) (MadeLk (Go.Sort.grow (redrawn w10 dq) os) (Go.Sort.grow (redrawn w10 dq) os).heap.size h l) := fun dq os => toLocks_any A c h K d l _ ((HR.out.below (HB6.out.trans ((below_regrown w10 dq os).mono HB6.out.size))).more (HB6.out.trans ((below_regrown w10 dq os).mono HB6.out.size)).size) hps ((HK.out.below (HB6.out.trans ((below_regrown w10 dq os).mono HB6.out.size))).more (HB6.out.trans ((below_regrown w10 dq os).mono HB6.out.size)).size) hks
  have b0a := Row2.c0 (X.out.below C0_10.out)
  have b0b := Row2.c1 (X.out.below C0_10.out)
  have b1a := Row2.c0 (Z.out.below C4_10.out)
  have b1b := Row2.c1 (Z.out.below C4_10.out)
  have b2a := Row2.c0 (Y.out.below C6_10.out)
  have b2b := Row2.c1 (Y.out.below C6_10.out)
  have b3a := Row2.c0 (GB.out.below C8_10.out)
  have b3b := Row2.c1 (GB.out.below C8_10.out)
  go_wp2_with fail
  go_region_held3 (fun w' => w'.cell? ⟨w.heap.size, 0, none⟩ = some (.slice A h.length c) ∧ w'.cell? ⟨w.heap.size, 1, none⟩ = some (.slice K l.length d) ∧
      w'.cell? ⟨w5.heap.size, 0, none⟩ = some (.slice A5 h.length c5) ∧ w'.cell? ⟨w5.heap.size, 1, none⟩ = some (.slice K5 l.length d5)) (go_keep)
    (first
      | (go_at_call 17; refine (toLocks_any A c h K d l _ ((HR.out.below HB6.out.drew).more HB6.out.drew.size) hps ((HK.out.below HB6.out.drew).more HB6.out.drew.size) hks).mono ?_; rintro e w110 ⟨Aq, cq, Kq, dq, Bq, rfl, hp7, hi7, _, _, hb7⟩; have X7 := hid ((X6.out.below (Below.refl _ _).drew).below hb7); have Y7 := hid ((Y6.out.below (Below.refl _ _).drew).below hb7); have HP7 := hid hp7; have HI7 := hid hi7; have HQ7 := hid ((HP6.out.below (Below.refl _ _).drew).below hb7); have HJ7 := hid ((HI6.out.below (Below.refl _ _).drew).below hb7); have hbr := (Below.refl w10.heap.size w10).drew.trans hb7; have HB7 := hid hbr; clear hp7 hi7 hb7 hbr; have x70 := X7.out.c0; have x71 := X7.out.c1; have y70 := Y7.out.c0; have y71 := Y7.out.c1)
      | (go_at_call 19; refine (eqLocks_same A5 c5 h K5 d5 l Aq cq Kq dq _ HQ7.out.rh HN.out HJ7.out.rh HM.out HP7.out.rh HI7.out.rh).mono ?_; rintro e w11 ⟨rfl, hb8⟩; have X8 := hid (X7.out.below hb8); have Y8 := hid (Y7.out.below hb8); have HB8 := hid (HB7.out.trans (hb8.mono HB7.out.size)); clear hb8; have x80 := X8.out.c0; have x81 := X8.out.c1; have y80 := Y8.out.c0; have y81 := Y8.out.c1)
      | (go_at_call 19; refine (eqLocks_same A5 c5 h K5 d5 l Aq cq Kq dq _ (HQ7.out.below (Below.refl _ _).drew).rh HN.out (HJ7.out.below (Below.refl _ _).drew).rh HM.out (HP7.out.below (Below.refl _ _).drew).rh (HI7.out.below (Below.refl _ _).drew).rh).mono ?_; rintro e w11 ⟨rfl, hb8⟩; have X8 := hid ((X7.out.below (Below.refl _ _).drew).below hb8); have Y8 := hid ((Y7.out.below (Below.refl _ _).drew).below hb8); have HB8 := hid (HB7.out.drew.trans (hb8.mono HB7.out.size)); clear hb8; have x80 := X8.out.c0; have x81 := X8.out.c1; have y80 := Y8.out.c0; have y81 := Y8.out.c1))
  have hbr := HB8.out
  clear x70 x71 y70 y71 x80 x81 y80 y81 c1
  clear b0a b0b b1a b1b b2a b2b b3a b3b
  have C0_11 := hid (C0_10.out.trans (hbr.mono C0_10.out.size))
  have C2_11 := hid (C2_10.out.trans (hbr.mono C2_10.out.size))
  have C3_11 := hid (C3_10.out.trans (hbr.mono C3_10.out.size))
  have C4_11 := hid (C4_10.out.trans (hbr.mono C4_10.out.size))
  have C5_11 := hid (C5_10.out.trans (hbr.mono C5_10.out.size))
  have C6_11 := hid (C6_10.out.trans (hbr.mono C6_10.out.size))
  have C7_11 := hid (C7_10.out.trans (hbr.mono C7_10.out.size))
  have C8_11 := hid (C8_10.out.trans (hbr.mono C8_10.out.size))
  have hs11 : w10.heap.size ≤ w11.heap.size := hbr.size
  clear hbr
  have XA := hid (OwnH.size (P5.out.below C5_11.out))
  have XK := hid (OwnH.size (I5.out.below C5_11.out))
  have XA5 := hid P5.out.size
  have XK5 := hid I5.out.size
  have bb5 := BB5.out
  have b0a := Row2.c0 (X.out.below C0_11.out)
  have b0b := Row2.c1 (X.out.below C0_11.out)
  have b1a := Row2.c0 (Z.out.below C4_11.out)
  have b1b := Row2.c1 (Z.out.below C4_11.out)
  have b2a := Row2.c0 (Y.out.below C6_11.out)
  have b2b := Row2.c1 (Y.out.below C6_11.out)
  have b3a := Row2.c0 (GB.out.below C8_11.out)
  have b3b := Row2.c1 (GB.out.below C8_11.out)
  go_wp2_with fail
  clear b0a b0b b1a b1b b2a b2b b3a b3b
  refine (markLocks_any w4.heap.size A5 c5 h K5 d5 l 1 _ (P5.out.below C5_11.out) (OwnH.mono (I5.out.below C5_11.out) BB5.out) (fun q h1 h2 => by have := LT5.out q h1; have := (XK5.out q h2).1; omega) (by omega) (by omega) (by omega)).mono ?_
  rintro e w12 ⟨rfl, _, _, hg⟩
  have GA7 := hid G7a.out.size
  have GK7 := hid G7b.out.size
  have GI7 := hid (World.ownsRow.lt G7c.out)
  have N12a := hid (OwnH.keep2 (G7a.out.below C7_11.out) hg (fun q hq e => by have := (GA7.out q hq).1; have := (XA5.out q e.symm).2; omega) (fun q hq e => by have := (GA7.out q hq).1; have := (XK5.out q e.symm).2; omega))
  have N12b := hid (OwnH.keep2 (G7b.out.below C7_11.out) hg (fun q hq e => by have := (GK7.out q hq).1; have := (XA5.out q e.symm).2; omega) (fun q hq e => by have := (GK7.out q hq).1; have := (XK5.out q e.symm).2; omega))
  have N12c := hid (show OwnI w12 _ _ _ _ from own_keep2 (G7c.out.below C7_11.out) hg (fun q hq e => by have := (GI7.out q hq).1; have := (XA5.out q e.symm).2; omega) (fun q hq e => by have := (GI7.out q hq).1; have := (XK5.out q e.symm).2; omega))
  have N12g := hid (show Row2 w12 _ _ _ _ from own_keep2 (GB.out.below C8_11.out) hg (fun q hq e => by cases hq; have := (XA5.out _ e.symm).2; simp only at this; omega) (fun q hq e => by cases hq; have := (XK5.out _ e.symm).2; simp only at this; omega))
  have hs12 : w11.heap.size ≤ w12.heap.size := hg.size
  have C0_12 := hid (Grown2.below C0_11.out (hg) C0_11.out.size (fun q hq => by have := XA5.out q hq; omega) (fun q hq => by have := XK5.out q hq; omega))
  have C3_12 := hid (Grown2.below C3_11.out (hg) C3_11.out.size (fun q hq => by have := XA5.out q hq; omega) (fun q hq => by have := XK5.out q hq; omega))
  have C4_12 := hid (Grown2.below C4_11.out (hg) C4_11.out.size (fun q hq => by have := XA5.out q hq; omega) (fun q hq => by have := XK5.out q hq; omega))
  clear hg
  have b0a := Row2.c0 (X.out.below C0_12.out)
  have b0b := Row2.c1 (X.out.below C0_12.out)
  have b1a := Row2.c0 (Z.out.below C4_12.out)
  have b1b := Row2.c1 (Z.out.below C4_12.out)
  have b2a := Row2.c0 N12g.out
  have b2b := Row2.c1 N12g.out
  go_wp2_with fail
  clear b0a b0b b1a b1b b2a b2b
  refine (eqLocks_same A7 c7 (freeR h l t).1 K7 d7 (freeR h l t).2.1 A3 c3 K3 d3 _ N12a.out.rh (by have := HLEN.out; unfold maxLen; omega) N12b.out.rh (by have := HLEN.out; unfold maxLen; omega) ((R3a.out.below C3_12.out).more C3_12.out.size) ((R3b.out.below C3_12.out).more C3_12.out.size)).mono ?_
  rintro e w13 ⟨rfl, hb⟩
  have C0_13 := hid (C0_12.out.trans (hb.mono C0_12.out.size))
  have C3_13 := hid (C3_12.out.trans (hb.mono C3_12.out.size))
  have C4_13 := hid (C4_12.out.trans (hb.mono C4_12.out.size))
  have C12_13 := hid (hb)
  have hs13 : w12.heap.size ≤ w13.heap.size := hb.size
  clear hb
  have ht : decide ((freeR h l t).2.2 = (freeR h l t).2.2) = true := by simp
  have b0a := Row2.c0 (X.out.below C0_13.out)
  have b0b := Row2.c1 (X.out.below C0_13.out)
  have b1a := Row2.c0 (Z.out.below C4_13.out)
  have b1b := Row2.c1 (Z.out.below C4_13.out)
  have b2a := Row2.c0 (N12g.out.below C12_13.out)
  have b2b := Row2.c1 (N12g.out.below C12_13.out)
  go_wp2_with fail
  clear b0a b0b b1a b1b b2a b2b
  refine (eqInt64S_any W7 W3 e7 e3 (freeR h l t).2.2 (freeR h l t).2.2 w13.heap.size _ (N12c.out.below C12_13.out).ri ((R3c.out.below C3_13.out).more C3_13.out.size) (by have := HLEN.out; unfold maxLen; omega)).mono ?_
  rintro e w14 ⟨rfl, hdr⟩
  have hb := hdr.below w13.heap.size
  have C0_14 := hid (C0_13.out.trans (hb.mono C0_13.out.size))
  have C3_14 := hid (C3_13.out.trans (hb.mono C3_13.out.size))
  have C4_14 := hid (C4_13.out.trans (hb.mono C4_13.out.size))
  have C12_14 := hid (C12_13.out.trans (hb.mono C12_13.out.size))
  have hs14 : w13.heap.size ≤ w14.heap.size := hb.size
  clear hb hdr ht
  have b0a := Row2.c0 (X.out.below C0_14.out)
  have b0b := Row2.c1 (X.out.below C0_14.out)
  have b1a := Row2.c0 (Z.out.below C4_14.out)
  have b1b := Row2.c1 (Z.out.below C4_14.out)
  have b2a := Row2.c0 (N12g.out.below C12_14.out)
  have b2b := Row2.c1 (N12g.out.below C12_14.out)
  go_wp2_with fail
  clear b0a b0b b1a b1b b2a b2b
  refine (markLocks_any w6.heap.size A7 c7 (freeR h l t).1 K7 d7 (freeR h l t).2.1 1 _ (N12a.out.below C12_14.out) (N12b.out.below C12_14.out) G7n.out (by have := HLEN.out; omega) (by have := HLEN.out; omega) (by omega)).mono ?_
  rintro e w15 ⟨rfl, hoa, hob, hg⟩
  have M15a := hid hoa
  have M15b := hid hob
  have M15c := hid (show OwnI w15 _ _ _ _ from own_keep2 (N12c.out.below C12_14.out) hg (fun q hq e => own_ne (by decide) (N12c.out.below C12_14.out) (N12a.out.below C12_14.out) q hq e.symm) (fun q hq e => own_ne (by decide) (N12c.out.below C12_14.out) (N12b.out.below C12_14.out) q hq e.symm))
  have M15g := hid (show Row2 w15 _ _ _ _ from own_keep2 (N12g.out.below C12_14.out) hg (fun q hq e => own_ne (by decide) (N12g.out.below C12_14.out) (N12a.out.below C12_14.out) q hq e.symm) (fun q hq e => own_ne (by decide) (N12g.out.below C12_14.out) (N12b.out.below C12_14.out) q hq e.symm))
  have hs15 : w14.heap.size ≤ w15.heap.size := hg.size
  have C0_15 := hid (Grown2.below C0_14.out (hg) C0_14.out.size (fun q hq => by have := GA7.out q hq; omega) (fun q hq => by have := GK7.out q hq; omega))
  have C3_15 := hid (Grown2.below C3_14.out (hg) C3_14.out.size (fun q hq => by have := GA7.out q hq; omega) (fun q hq => by have := GK7.out q hq; omega))
  have C4_15 := hid (Grown2.below C4_14.out (hg) C4_14.out.size (fun q hq => by have := GA7.out q hq; omega) (fun q hq => by have := GK7.out q hq; omega))
  clear hg hoa hob
  have b0a := Row2.c0 (X.out.below C0_15.out)
  have b0b := Row2.c1 (X.out.below C0_15.out)
  have b1a := Row2.c0 (Z.out.below C4_15.out)
  have b1b := Row2.c1 (Z.out.below C4_15.out)
  have b2a := Row2.c0 M15g.out
  have b2b := Row2.c1 M15g.out
  go_wp2_with fail
  clear b0a b0b b1a b1b b2a b2b
  refine (markInt64S_any w6.heap.size W7 e7 (freeR h l t).2.2 (1 + 3 * (freeR h l t).1.length + 3 * (freeR h l t).2.1.length) _ (show OwnI _ _ _ _ _ from M15c.out) (by have := HLEN.out; omega) (by have := HLEN.out; omega)).mono ?_
  rintro e w16 ⟨rfl, hoi, hg⟩
  have M16a := hid (M15a.out.keepG hg (fun q hq e => own_ne (by decide) M15a.out M15c.out q hq e.symm))
  have M16b := hid (M15b.out.keepG hg (fun q hq e => own_ne (by decide) M15b.out M15c.out q hq e.symm))
  have M16g := hid (show Row2 w16 _ _ _ _ from own_keep2 M15g.out (grown2_one hg) (fun q hq e => own_ne (by decide) M15g.out M15c.out q hq e.symm) (fun q hq e => by cases e))
  have M16c := hid (show OwnI w16 w6.heap.size W7 e7 (marksI (freeR h l t).2.2.length (1 + 3 * (freeR h l t).1.length + 3 * (freeR h l t).2.1.length)) from by unfold OwnI; rw [marksI_len]; exact hoi)
  have hs16 : w15.heap.size ≤ w16.heap.size := hg.size
  have C0_16 := hid (Grown2.below C0_15.out (grown2_one hg) C0_15.out.size (fun q hq => by have := GI7.out q hq; omega) (fun q hq => by cases hq))
  have C3_16 := hid (Grown2.below C3_15.out (grown2_one hg) C3_15.out.size (fun q hq => by have := GI7.out q hq; omega) (fun q hq => by cases hq))
  have C4_16 := hid (Grown2.below C4_15.out (grown2_one hg) C4_15.out.size (fun q hq => by have := GI7.out q hq; omega) (fun q hq => by cases hq))
  clear hg hoi
  have q1 : ¬ (((1 + 3 * (freeR h l t).1.length + 3 * (freeR h l t).2.1.length : Nat) : Nat) : Int) < 0 := by omega
  have q2 : ¬ (((1 + 3 * (freeR h l t).1.length + 3 * (freeR h l t).2.1.length : Nat) + (freeR h l t).2.2.length : Nat) : Int) < 0 := by omega
  have q3 : ((((1 + 3 * (freeR h l t).1.length + 3 * (freeR h l t).2.1.length : Nat) + (freeR h l t).2.2.length : Nat) : Int) != (((1 + 3 * (freeR h l t).1.length + 3 * (freeR h l t).2.1.length : Nat) + (freeR h l t).2.2.length : Nat) : Int)) = false := by simp
  have b0a := Row2.c0 (X.out.below C0_16.out)
  have b0b := Row2.c1 (X.out.below C0_16.out)
  have b1a := Row2.c0 (Z.out.below C4_16.out)
  have b1b := Row2.c1 (Z.out.below C4_16.out)
  have b2a := Row2.c0 M16g.out
  have b2b := Row2.c1 M16g.out
  go_wp2_with fail
  clear b0a b0b b1a b1b b2a b2b
  refine (heldLocks_any A7 c7 (freeR h l t).1.length K7 d7 (freeR h l t).2.1.length 1 _ M16a.out.rh M16b.out.rh (by have := HLEN.out; omega) (by have := HLEN.out; omega) (by omega)).mono ?_
  rintro e w17 ⟨rfl, hb⟩
  have C0_17 := hid (C0_16.out.trans (hb.mono C0_16.out.size))
  have C3_17 := hid (C3_16.out.trans (hb.mono C3_16.out.size))
  have C4_17 := hid (C4_16.out.trans (hb.mono C4_16.out.size))
  have C16_17 := hid (hb)
  have hs17 : w16.heap.size ≤ w17.heap.size := hb.size
  clear hb
  have b0a := Row2.c0 (X.out.below C0_17.out)
  have b0b := Row2.c1 (X.out.below C0_17.out)
  have b1a := Row2.c0 (Z.out.below C4_17.out)
  have b1b := Row2.c1 (Z.out.below C4_17.out)
  have b2a := Row2.c0 (M16g.out.below C16_17.out)
  have b2b := Row2.c1 (M16g.out.below C16_17.out)
  go_wp2_with fail
  clear b0a b0b b1a b1b b2a b2b
  refine (heldInt64S_any W7 e7 (freeR h l t).2.2.length (1 + 3 * (freeR h l t).1.length + 3 * (freeR h l t).2.1.length) w17.heap.size _ (OwnI.ri (M16c.out.below C16_17.out)) (by have := HLEN.out; omega) (by have := HLEN.out; omega)).mono ?_
  rintro e w18 ⟨rfl, hdr⟩
  have hb := hdr.below w17.heap.size
  have C0_18 := hid (C0_17.out.trans (hb.mono C0_17.out.size))
  have C3_18 := hid (C3_17.out.trans (hb.mono C3_17.out.size))
  have C4_18 := hid (C4_17.out.trans (hb.mono C4_17.out.size))
  have C16_18 := hid (C16_17.out.trans (hb.mono C16_17.out.size))
  have hs18 : w17.heap.size ≤ w18.heap.size := hb.size
  clear hb hdr
  have b0a := Row2.c0 (X.out.below C0_18.out)
  have b0b := Row2.c1 (X.out.below C0_18.out)
  have b1a := Row2.c0 (Z.out.below C4_18.out)
  have b1b := Row2.c1 (Z.out.below C4_18.out)
  have b2a := Row2.c0 (M16g.out.below C16_18.out)
  have b2b := Row2.c1 (M16g.out.below C16_18.out)
  go_wp2_with fail
  clear b0a b0b b1a b1b b2a b2b
  refine (toLocks_any A c h K d l _ ((HR.out.below C0_18.out).more C0_18.out.size) hps ((HK.out.below C0_18.out).more C0_18.out.size) hks).mono ?_
  rintro e w19 ⟨A20, c20, K20, d20, B20, rfl, hp, hi, hBB, hlt, hb⟩
  have C0_19 := hid (C0_18.out.trans (hb.mono C0_18.out.size))
  have C3_19 := hid (C3_18.out.trans (hb.mono C3_18.out.size))
  have C4_19 := hid (C4_18.out.trans (hb.mono C4_18.out.size))
  have C16_19 := hid (C16_18.out.trans (hb.mono C16_18.out.size))
  have hs19 : w18.heap.size ≤ w19.heap.size := hb.size
  have P20 := hid hp
  have I20 := hid hi
  have BB20 := hid hBB
  have LT20 := hid hlt
  clear hp hi hBB hlt hb
  have b0a := Row2.c0 (X.out.below C0_19.out)
  have b0b := Row2.c1 (X.out.below C0_19.out)
  have b1a := Row2.c0 (Z.out.below C4_19.out)
  have b1b := Row2.c1 (Z.out.below C4_19.out)
  have b2a := Row2.c0 (M16g.out.below C16_19.out)
  have b2b := Row2.c1 (M16g.out.below C16_19.out)
  go_wp2_with fail
  clear b0a b0b b1a b1b b2a b2b
  refine (impl_Free _ _ h _ _ l t _ P20.out.rh HF.out P20.out.cap.1 P20.out.cap.2 I20.out.rh HG.out I20.out.cap.1 I20.out.cap.2).mono ?_
  rintro e w20 ⟨A21, c21, K21, d21, W21, e21, rfl, hp, hi, hw, hne, hb⟩
  have C0_20 := hid (C0_19.out.trans (hb.mono C0_19.out.size))
  have C3_20 := hid (C3_19.out.trans (hb.mono C3_19.out.size))
  have C4_20 := hid (C4_19.out.trans (hb.mono C4_19.out.size))
  have C16_20 := hid (C16_19.out.trans (hb.mono C16_19.out.size))
  have C19_20 := hid (hb)
  have hs20 : w19.heap.size ≤ w20.heap.size := hb.size
  have G21a := hid hp
  have G21b := hid hi
  have G21c := hid hw
  have G21n := hid hne
  clear hp hi hw hne hb
  have hbq : Below w20.heap.size w20 (w20.alloc (.cells #[.slice A21 (freeR h l t).1.length c21, .slice K21 (freeR h l t).2.1.length d21] 28)) := (Below.refl _ _).alloc (Nat.le_refl _) _
  have hyq := Row2.lit w20 28 (.slice A21 (freeR h l t).1.length c21) (.slice K21 (freeR h l t).2.1.length d21)
  have b0a := Row2.c0 (X.out.below C0_20.out)
  have b0b := Row2.c1 (X.out.below C0_20.out)
  have d0a := Row2.c0 (Row2.below (X.out.below C0_20.out) hbq)
  have d0b := Row2.c1 (Row2.below (X.out.below C0_20.out) hbq)
  have b1a := Row2.c0 (Z.out.below C4_20.out)
  have b1b := Row2.c1 (Z.out.below C4_20.out)
  have d1a := Row2.c0 (Row2.below (Z.out.below C4_20.out) hbq)
  have d1b := Row2.c1 (Row2.below (Z.out.below C4_20.out) hbq)
  have b2a := Row2.c0 (M16g.out.below C16_20.out)
  have b2b := Row2.c1 (M16g.out.below C16_20.out)
  have d2a := Row2.c0 (Row2.below (M16g.out.below C16_20.out) hbq)
  have d2b := Row2.c1 (Row2.below (M16g.out.below C16_20.out) hbq)
  go_wp2_with fail
  clear b0a b0b b1a b1b b2a b2b
  clear d0a d0b d1a d1b d2a d2b
  generalize hgq : w20.alloc (.cells #[.slice A21 (freeR h l t).1.length c21, .slice K21 (freeR h l t).2.1.length d21] 28) = w21 at *
  clear hgq
  have C0_21 := hid (C0_20.out.trans (hbq.mono C0_20.out.size))
  have C3_21 := hid (C3_20.out.trans (hbq.mono C3_20.out.size))
  have C4_21 := hid (C4_20.out.trans (hbq.mono C4_20.out.size))
  have C16_21 := hid (C16_20.out.trans (hbq.mono C16_20.out.size))
  have C19_21 := hid (C19_20.out.trans (hbq.mono C19_20.out.size))
  have C20_21 := hid (hbq)
  have hs21 : w20.heap.size ≤ w21.heap.size := hbq.size
  have HB22 := hid hyq
  clear hyq hbq
  refine (eqLocks_same A21 c21 (freeR h l t).1 K21 d21 (freeR h l t).2.1 A3 c3 K3 d3 _ (G21a.out.below C20_21.out).rh (by have := HLEN.out; unfold maxLen; omega) (G21b.out.below C20_21.out).rh (by have := HLEN.out; unfold maxLen; omega) ((R3a.out.below C3_21.out).more C3_21.out.size) ((R3b.out.below C3_21.out).more C3_21.out.size)).mono ?_
  rintro e w22 ⟨rfl, hb⟩
  have C0_22 := hid (C0_21.out.trans (hb.mono C0_21.out.size))
  have C3_22 := hid (C3_21.out.trans (hb.mono C3_21.out.size))
  have C4_22 := hid (C4_21.out.trans (hb.mono C4_21.out.size))
  have C16_22 := hid (C16_21.out.trans (hb.mono C16_21.out.size))
  have C19_22 := hid (C19_21.out.trans (hb.mono C19_21.out.size))
  have C20_22 := hid (C20_21.out.trans (hb.mono C20_21.out.size))
  have C21_22 := hid (hb)
  have hs22 : w21.heap.size ≤ w22.heap.size := hb.size
  clear hb
  have ht : decide ((freeR h l t).2.2 = (freeR h l t).2.2) = true := by simp
  have b0a := Row2.c0 (X.out.below C0_22.out)
  have b0b := Row2.c1 (X.out.below C0_22.out)
  have b1a := Row2.c0 (Z.out.below C4_22.out)
  have b1b := Row2.c1 (Z.out.below C4_22.out)
  have b2a := Row2.c0 (M16g.out.below C16_22.out)
  have b2b := Row2.c1 (M16g.out.below C16_22.out)
  have b3a := Row2.c0 (HB22.out.below C21_22.out)
  have b3b := Row2.c1 (HB22.out.below C21_22.out)
  go_wp2_with fail
  clear b0a b0b b1a b1b b2a b2b b3a b3b
  refine (eqInt64S_any W21 W3 e21 e3 (freeR h l t).2.2 (freeR h l t).2.2 w22.heap.size _ (G21c.out.below C20_22.out).ri ((R3c.out.below C3_22.out).more C3_22.out.size) (by have := HLEN.out; unfold maxLen; omega)).mono ?_
  rintro e w23 ⟨rfl, hdr⟩
  have hb := hdr.below w22.heap.size
  have C0_23 := hid (C0_22.out.trans (hb.mono C0_22.out.size))
  have C3_23 := hid (C3_22.out.trans (hb.mono C3_22.out.size))
  have C4_23 := hid (C4_22.out.trans (hb.mono C4_22.out.size))
  have C16_23 := hid (C16_22.out.trans (hb.mono C16_22.out.size))
  have C19_23 := hid (C19_22.out.trans (hb.mono C19_22.out.size))
  have C20_23 := hid (C20_22.out.trans (hb.mono C20_22.out.size))
  have C21_23 := hid (C21_22.out.trans (hb.mono C21_22.out.size))
  have hs23 : w22.heap.size ≤ w23.heap.size := hb.size
  clear hb hdr ht
  have b0a := Row2.c0 (X.out.below C0_23.out)
  have b0b := Row2.c1 (X.out.below C0_23.out)
  have b1a := Row2.c0 (Z.out.below C4_23.out)
  have b1b := Row2.c1 (Z.out.below C4_23.out)
  have b2a := Row2.c0 (M16g.out.below C16_23.out)
  have b2b := Row2.c1 (M16g.out.below C16_23.out)
  have b3a := Row2.c0 (HB22.out.below C21_23.out)
  have b3b := Row2.c1 (HB22.out.below C21_23.out)
  go_wp2_with fail
  clear b0a b0b b1a b1b b2a b2b b3a b3b
  refine (heldLocks_any A7 c7 (freeR h l t).1.length K7 d7 (freeR h l t).2.1.length 1 _ (M16a.out.below C16_23.out).rh (M16b.out.below C16_23.out).rh (by have := HLEN.out; omega) (by have := HLEN.out; omega) (by omega)).mono ?_
  rintro e w24 ⟨rfl, hb⟩
  have C0_24 := hid (C0_23.out.trans (hb.mono C0_23.out.size))
  have C3_24 := hid (C3_23.out.trans (hb.mono C3_23.out.size))
  have C4_24 := hid (C4_23.out.trans (hb.mono C4_23.out.size))
  have C16_24 := hid (C16_23.out.trans (hb.mono C16_23.out.size))
  have C19_24 := hid (C19_23.out.trans (hb.mono C19_23.out.size))
  have C20_24 := hid (C20_23.out.trans (hb.mono C20_23.out.size))
  have C21_24 := hid (C21_23.out.trans (hb.mono C21_23.out.size))
  have hs24 : w23.heap.size ≤ w24.heap.size := hb.size
  clear hb
  have b0a := Row2.c0 (X.out.below C0_24.out)
  have b0b := Row2.c1 (X.out.below C0_24.out)
  have b1a := Row2.c0 (Z.out.below C4_24.out)
  have b1b := Row2.c1 (Z.out.below C4_24.out)
  have b2a := Row2.c0 (M16g.out.below C16_24.out)
  have b2b := Row2.c1 (M16g.out.below C16_24.out)
  have b3a := Row2.c0 (HB22.out.below C21_24.out)
  have b3b := Row2.c1 (HB22.out.below C21_24.out)
  go_wp2_with fail
  clear b0a b0b b1a b1b b2a b2b b3a b3b
  refine (heldInt64S_any W7 e7 (freeR h l t).2.2.length (1 + 3 * (freeR h l t).1.length + 3 * (freeR h l t).2.1.length) w24.heap.size _ (OwnI.ri (M16c.out.below C16_24.out)) (by have := HLEN.out; omega) (by have := HLEN.out; omega)).mono ?_
  rintro e w25 ⟨rfl, hdr⟩
  have hb := hdr.below w24.heap.size
  have C0_25 := hid (C0_24.out.trans (hb.mono C0_24.out.size))
  have C3_25 := hid (C3_24.out.trans (hb.mono C3_24.out.size))
  have C4_25 := hid (C4_24.out.trans (hb.mono C4_24.out.size))
  have C16_25 := hid (C16_24.out.trans (hb.mono C16_24.out.size))
  have C19_25 := hid (C19_24.out.trans (hb.mono C19_24.out.size))
  have C20_25 := hid (C20_24.out.trans (hb.mono C20_24.out.size))
  have C21_25 := hid (C21_24.out.trans (hb.mono C21_24.out.size))
  have hs25 : w24.heap.size ≤ w25.heap.size := hb.size
  clear hb hdr
  have b0a := Row2.c0 (X.out.below C0_25.out)
  have b0b := Row2.c1 (X.out.below C0_25.out)
  have b1a := Row2.c0 (Z.out.below C4_25.out)
  have b1b := Row2.c1 (Z.out.below C4_25.out)
  have b2a := Row2.c0 (M16g.out.below C16_25.out)
  have b2b := Row2.c1 (M16g.out.below C16_25.out)
  have b3a := Row2.c0 (HB22.out.below C21_25.out)
  have b3b := Row2.c1 (HB22.out.below C21_25.out)
  go_wp2_with fail
  go_ret
  exact ⟨rfl, HB0.out.trans (C0_25.out.mono HB0.out.size)⟩

set_option maxRecDepth 100000 in
theorem exactFree_lifted (os : Os) (started : os.Started) (H : Type) (enc : TypeId × Value → H) :
    ReturnsInHanded {} Try.checked os 3 .any (Rows.fnExactFreeSpec.pre6 enc Try.prog Try.f3 Rows.fnExactFreeRow.domain false) (Rows.fnExactFreeSpec.post enc Try.prog Try.f3 false true false false) := by
  refine returnsInHanded_of_change (C := Try.checked) own started (by kernel_rfl) Try.func3
    (ChangeSpec.witness6 (enc := enc) (C := Try.checked) false ⟨#[], #[.agg #[.slice none 0 0, .slice none 0 0], .int .i64 0], []⟩ 8 (by kernel_rfl) (by kernel_rfl) (by kernel_rfl) (by kernel_rfl)) ?_
  intro W base args ds gs before hval hW _ _
  have hW' := hW
  obtain ⟨p, q, hA0, hV, rfl, hfz, hnd⟩ := hW
  have hA : DataW.TrodAll enc Try.prog W 0 (fun _ => true) true Try.f3.params.toList args.toList ds p := hA0
  rw [Try.params3] at hA hval
  obtain ⟨v0, vs0, d0, ds0, p0, q0, hargs, rfl, rfl, h0, r0⟩ := trodAll_cons hA
  obtain ⟨v1, vs1, d1, ds1, p1, q1, rfl, rfl, rfl, h1, r1⟩ := trodAll_cons r0
  obtain ⟨rfl, rfl, rfl⟩ := trodAll_nil r1
  obtain rfl : args = #[v0, v1] := by cases args; simp_all
  clear hargs
  obtain ⟨A0, c0, h, K0, e0, l, rfl, rr0, f0, n0, ri0, g0, m0⟩ := open_locks (hval 0 24 v0 rfl rfl) h0
  obtain ⟨t, rfl, rfl, rfl, w1⟩ := Go.ChangeShapes.open_int Try.underlying2 (hval 1 2 v1 rfl rfl) h1
  refine (exactFree_walk A0 c0 h K0 e0 l t W rr0 f0 n0 ri0 g0 m0 ).mono fun e W' ⟨he, hw⟩ => ?_
  subst he
  exact ⟨_, rfl, law_post (tb := 4) laidOut (by kernel_rfl) rfl hW' Try.underlying4 (by kernel_rfl) (fun gs' e => by subst e; rfl) hw⟩

theorem exactFree_holds : Rows.FnExactFreeSaid :=
  OpenClaim.holds_of_wide 3 Try.f3 rfl rfl rfl rfl rfl rfl rfl ⟨rfl, rfl, rfl, rfl, rfl⟩ rfl rfl rfl rfl rfl (by kernel_rfl) Try.func3 (by kernel_rfl)
    (of_decide_eq_true (by kernel_rfl)) (by unfold Func.isWrapper; rw [if_neg (of_decide_eq_false (by kernel_rfl))]; exact ⟨rfl, rfl⟩)
    (fun os started H enc _ => exactFree_lifted os started H enc)
end Go.Proofs.Ytepgcflkgicpiaa
