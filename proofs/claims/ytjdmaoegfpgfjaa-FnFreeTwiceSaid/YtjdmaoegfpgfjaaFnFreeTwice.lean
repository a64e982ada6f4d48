/-
  FnFreeTwice answers true at every list of bytes, and its argument reads as it did. No condition.
-/
import Derived.Test.YtjdmaoegfpgfjaaLkLaw
namespace Go.Proofs.Ytjdmaoegfpgfjaa
open Go.ChangeShapes Go.WideShapes Go.ChangeAt Go.RowKit

set_option maxHeartbeats 16000000 in
set_option maxRecDepth 200000 in
theorem freeTwice_walk (A : Option Addr) (n c : Nat) (w : World) (hc : CB w w.heap.size A n) (hn : n ≤ maxLen) :
    Calls Try.prog 6 #[.slice A n c] w fun e w' => e = .returned (.bool true) ∧ Below w.heap.size w w' := by
  have HC := hid hc
  clear hc
  unfold maxLen at hn
  go_enter Try.func6, Try.ntmps6
  go_wp2_with fail
  refine (bigK_any A n c _).mono ?_
  rintro e w0 ⟨rfl, rfl⟩
  by_cases hbig : (1048576 : Int) < (n : Int)
  · go_wp2_with fail
    go_ret
    exact ⟨rfl, Below.refl _ _⟩
  go_wp2_with fail
  refine (drawFree_any A n c _ HC.out (by omega)).mono ?_
  rintro e w1 ⟨A1, c1, h, K1, d1, l, t, rfl, ho1, hl1, hf1, hg1, ht1, hb1⟩
  have hvb : Below w1.heap.size w1 (w1.alloc (.cells #[.slice A1 h.length c1, .slice K1 l.length d1] 39)) := Bl.al (Below.refl _ _)
  have V := hid (Row2.lit w1 39 (.slice A1 h.length c1) (.slice K1 l.length d1))
  have RA := hid (ho1.below hvb).rh
  have RK := hid (hl1.below hvb).rh
  have CA := hid ho1.cap
  have CK := hid hl1.cap
  have HF := hid hf1
  have HG := hid hg1
  have HT := hid ht1
  have HB2 := hid (hb1.trans (hvb.mono hb1.size))
  have HH := hid (Nat.le_trans ho1.cap.1 ho1.cap.2)
  have HL := hid (Nat.le_trans hl1.cap.1 hl1.cap.2)
  clear ho1 hl1 hf1 hg1 ht1 hb1 hvb hbig
  go_wp2_with fail
  generalize hw2 : w1.alloc (.cells #[.slice A1 h.length c1, .slice K1 l.length d1] 39) = w2 at *
  clear hw2
  refine (impl_Free A1 c1 h K1 d1 l t w2 RA.out HF.out CA.out.1 CA.out.2 RK.out HG.out CK.out.1 CK.out.2).mono ?_
  rintro e w3 ⟨A3, c3, K3, d3, W3, e3, rfl, hA3, hK3, hI3, _, hb3⟩
  have hnb : Below w3.heap.size w3 (w3.alloc (.cells #[.slice A3 (freeR h l t).1.length c3, .slice K3 (freeR h l t).2.1.length d3] 39)) := Bl.al (Below.refl _ _)
  have N := hid (Row2.lit w3 39 (.slice A3 (freeR h l t).1.length c3) (.slice K3 (freeR h l t).2.1.length d3))
  have NA := hid (hA3.below hnb).rh
  have NK := hid (hK3.below hnb).rh
  have NI := hid (hI3.below hnb).ri
  have LA := hid hA3.cap
  have LB := hid hK3.cap
  have LC := hid (Nat.le_trans hI3.cap.1 hI3.cap.2)
  have LA2 := hid (Nat.le_trans hA3.cap.1 hA3.cap.2)
  have LB2 := hid (Nat.le_trans hK3.cap.1 hK3.cap.2)
  have C2_3 := hid hb3
  have C2_4 := hid (hb3.trans (hnb.mono hb3.size))
  have HB4 := hid (HB2.out.trans (C2_4.out.mono HB2.out.size))
  have v0a := (V.out.below hb3).c0
  have v1a := (V.out.below hb3).c1
  have v0b := (V.out.below C2_4.out).c0
  have v1b := (V.out.below C2_4.out).c1
  clear hA3 hK3 hI3 hb3 hnb
  go_wp2_with fail
  clear v0a v1a v0b v1b
  generalize hw4 : w3.alloc (.cells #[.slice A3 (freeR h l t).1.length c3, .slice K3 (freeR h l t).2.1.length d3] 39) = w4 at *
  clear hw4
  refine (spec_Free A1 c1 h K1 d1 l t w4 ((RA.out.below C2_4.out).more C2_4.out.size) HF.out HH.out ((RK.out.below C2_4.out).more C2_4.out.size) HG.out HL.out).mono ?_
  rintro e w5 ⟨A5, c5, K5, d5, W5, e5, rfl, hA5, hK5, _, hI5, hb5⟩
  have hmb : Below w5.heap.size w5 (w5.alloc (.cells #[.slice A5 (freeR h l t).1.length c5, .slice K5 (freeR h l t).2.1.length d5] 39)) := Bl.al (Below.refl _ _)
  have M := hid (Row2.lit w5 39 (.slice A5 (freeR h l t).1.length c5) (.slice K5 (freeR h l t).2.1.length d5))
  have MA := hid (hA5.below hmb).rh
  have MK := hid (hK5.below hmb).rh
  have MI := hid ((hI5.below hmb).more hmb.size)
  have C4_6 := hid (hb5.trans (hmb.mono hb5.size))
  have C2_6 := hid (C2_4.out.trans (C4_6.out.mono C2_4.out.size))
  have HB6 := hid (HB4.out.trans (C4_6.out.mono HB4.out.size))
  have n0a := (N.out.below hb5).c0
  have n1a := (N.out.below hb5).c1
  have n0b := (N.out.below C4_6.out).c0
  have n1b := (N.out.below C4_6.out).c1
  clear hA5 hK5 hI5 hb5 hmb
  go_wp2_with fail
  clear n0a n1a n0b n1b
  generalize hw6 : w5.alloc (.cells #[.slice A5 (freeR h l t).1.length c5, .slice K5 (freeR h l t).2.1.length d5] 39) = w6 at *
  clear hw6
  refine (sameLocks_same A3 c3 (freeR h l t).1 K3 d3 (freeR h l t).2.1 A5 c5 K5 d5 w6 ((NA.out.below C4_6.out).more C4_6.out.size) LA2.out ((NK.out.below C4_6.out).more C4_6.out.size) LB2.out MA.out MK.out).mono ?_
  rintro e w7 ⟨rfl, hb7⟩
  have C6_7 := hid hb7
  have C4_7 := hid (C4_6.out.trans (hb7.mono C4_6.out.size))
  have C2_7 := hid (C2_6.out.trans (hb7.mono C2_6.out.size))
  have HB7 := hid (HB6.out.trans (hb7.mono HB6.out.size))
  clear hb7
  go_wp2_with fail
  refine (sameInts_same W3 W5 e3 e5 (freeR h l t).2.2 w7.heap.size w7 ((NI.out.below C4_7.out).more C4_7.out.size) ((MI.out.below C6_7.out).more C6_7.out.size) LC.out).mono ?_
  rintro e w8 ⟨rfl, hd8⟩
  have C6_8 := hid (C6_7.out.trans (hd8.below _))
  have C4_8 := hid (C4_7.out.trans (hd8.below _))
  have C2_8 := hid (C2_7.out.trans (hd8.below _))
  have HB8 := hid (HB7.out.trans (hd8.below _))
  clear hd8
  have v0 := (V.out.below C2_8.out).c0
  have v1 := (V.out.below C2_8.out).c1
  go_wp2_with fail
  refine (spec_LocksOk A1 c1 h K1 d1 l w8 ((RA.out.below C2_8.out).more C2_8.out.size) HF.out HH.out ((RK.out.below C2_8.out).more C2_8.out.size) HG.out HL.out).mono ?_
  rintro e w9 ⟨rfl, hb9⟩
  have C6_9 := hid (C6_8.out.trans (hb9.mono C6_8.out.size))
  have C4_9 := hid (C4_8.out.trans (hb9.mono C4_8.out.size))
  have C2_9 := hid (C2_8.out.trans (hb9.mono C2_8.out.size))
  have HB9 := hid (HB8.out.trans (hb9.mono HB8.out.size))
  clear hb9 v0 v1
  have n0 := (N.out.below C4_9.out).c0
  have n1 := (N.out.below C4_9.out).c1
  cases hlk : locksB h l
  case false =>
    have m0 := (M.out.below C6_9.out).c0
    have m1 := (M.out.below C6_9.out).c1
    go_wp2_with fail
    refine (sameLocks_same A3 c3 (freeR h l t).1 K3 d3 (freeR h l t).2.1 A5 c5 K5 d5 w9 ((NA.out.below C4_9.out).more C4_9.out.size) LA2.out ((NK.out.below C4_9.out).more C4_9.out.size) LB2.out ((MA.out.below C6_9.out).more C6_9.out.size) ((MK.out.below C6_9.out).more C6_9.out.size)).mono ?_
    rintro e w10 ⟨rfl, hb10⟩
    have C6_10 := hid (C6_9.out.trans (hb10.mono C6_9.out.size))
    have C4_10 := hid (C4_9.out.trans (hb10.mono C4_9.out.size))
    have HB10 := hid (HB9.out.trans (hb10.mono HB9.out.size))
    clear hb10
    go_wp2_with fail
    refine (sameInts_same W3 W5 e3 e5 (freeR h l t).2.2 w10.heap.size w10 ((NI.out.below C4_10.out).more C4_10.out.size) ((MI.out.below C6_10.out).more C6_10.out.size) LC.out).mono ?_
    rintro e w11 ⟨rfl, hd11⟩
    have HB11 := hid (HB10.out.trans (hd11.below _))
    clear hd11
    go_wp2_with fail
    go_ret
    exact ⟨rfl, HB11.out⟩
  case true =>
    have HE : Hid (freeR h l t = freeL h l t) := by rw [Hid, freeR, if_pos hlk]
    have HTW : Hid (freeR (freeR h l t).1 (freeR h l t).2.1 t = ((freeR h l t).1, (freeR h l t).2.1, [])) := by
      rw [HE.out]
      exact free_twice hlk t (by have := HT.out; omega)
    have HOK : Hid (locksB (freeR h l t).1 (freeR h l t).2.1 = true) := by
      rw [HE.out]
      exact free_ok hlk t (by have := HT.out; omega)
    have HFF := hid (locks_fits HOK.out)
    have hsecond : Calls Try.prog 26 #[.agg #[.slice A3 (freeR h l t).1.length c3, .slice K3 (freeR h l t).2.1.length d3], .int .i64 t] w9 (MadeFrO w9 ((freeR h l t).1, (freeR h l t).2.1, [])) := by
      have := impl_Free A3 c3 (freeR h l t).1 K3 d3 (freeR h l t).2.1 t w9 ((NA.out.below C4_9.out).more C4_9.out.size) HFF.out.1 LA.out.1 LA.out.2 ((NK.out.below C4_9.out).more C4_9.out.size) HFF.out.2 LB.out.1 LB.out.2
      rwa [HTW.out] at this
    have HSE := hid hsecond
    clear hsecond hlk
    go_wp2_with fail
    refine HSE.out.mono ?_
    rintro e w10 ⟨A7, c7, K7, d7, W7, e7, rfl, hA7, hK7, hI7, _, hb10⟩
    have hqb : Below w10.heap.size w10 (w10.alloc (.cells #[.slice A7 (freeR h l t).1.length c7, .slice K7 (freeR h l t).2.1.length d7] 39)) := Bl.al (Below.refl _ _)
    have QA := hid (hA7.below hqb).rh
    have QK := hid (hK7.below hqb).rh
    have C4_10 := hid (C4_9.out.trans (hb10.mono C4_9.out.size))
    have C4_11 := hid (C4_10.out.trans (hqb.mono C4_10.out.size))
    have HB10 := hid (HB9.out.trans (hb10.mono HB9.out.size))
    have HB11 := hid (HB10.out.trans (hqb.mono HB10.out.size))
    clear n0 n1
    have n0a := (N.out.below C4_10.out).c0
    have n1a := (N.out.below C4_10.out).c1
    have n0b := (N.out.below C4_11.out).c0
    have n1b := (N.out.below C4_11.out).c1
    clear hA7 hK7 hI7 hb10 hqb
    go_wp2_with fail
    clear n0a n1a n0b n1b
    generalize hw11 : w10.alloc (.cells #[.slice A7 (freeR h l t).1.length c7, .slice K7 (freeR h l t).2.1.length d7] 39) = w11 at *
    clear hw11
    refine (sameLocks_same A7 c7 (freeR h l t).1 K7 d7 (freeR h l t).2.1 A3 c3 K3 d3 w11 QA.out LA2.out QK.out LB2.out ((NA.out.below C4_11.out).more C4_11.out.size) ((NK.out.below C4_11.out).more C4_11.out.size)).mono ?_
    rintro e w12 ⟨rfl, hb12⟩
    have HB12 := hid (HB11.out.trans (hb12.mono HB11.out.size))
    clear hb12
    go_wp2_with fail
    go_ret
    exact ⟨rfl, HB12.out⟩
end Go.Proofs.Ytjdmaoegfpgfjaa
