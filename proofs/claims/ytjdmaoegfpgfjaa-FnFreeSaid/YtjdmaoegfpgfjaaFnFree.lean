/-
  FnFree answers true at every list of bytes, and its argument reads as it did. No condition.
-/
import Derived.Test.YtjdmaoegfpgfjaaLkLaw
namespace Go.Proofs.Ytjdmaoegfpgfjaa
open Go.ChangeShapes Go.WideShapes Go.ChangeAt Go.RowKit

set_option maxHeartbeats 16000000 in
set_option maxRecDepth 200000 in
theorem free_walk (A : Option Addr) (n c : Nat) (w : World) (hc : CB w w.heap.size A n) (hn : n ≤ maxLen) :
    Calls Try.prog 8 #[.slice A n c] w fun e w' => e = .returned (.bool true) ∧ Below w.heap.size w w' := by
  have HC := hid hc
  clear hc
  unfold maxLen at hn
  go_enter Try.func8, Try.ntmps8
  go_wp2_with fail
  refine (bigK_any A n c _).mono ?_
  rintro e w0 ⟨rfl, rfl⟩
  by_cases hbig : (1048576 : Int) < (n : Int)
  · go_wp2_with fail
    go_ret
    exact ⟨rfl, Below.refl _ _⟩
  go_wp2_with fail
  refine (drawFree_any A n c _ HC.out (by omega)).mono ?_
  rintro e w1 ⟨A1, c1, h, K1, d1, l, t, rfl, ho1, hl1, hf1, hg1, ht1, hb1⟩
  have hvb : Below w1.heap.size w1 (w1.alloc (.cells #[.slice A1 h.length c1, .slice K1 l.length d1] 39)) := Bl.al (Below.refl _ _)
  have V := hid (Row2.lit w1 39 (.slice A1 h.length c1) (.slice K1 l.length d1))
  have RA := hid (ho1.below hvb).rh
  have RK := hid (hl1.below hvb).rh
  have CA := hid ho1.cap
  have CK := hid hl1.cap
  have HF := hid hf1
  have HG := hid hg1
  have HT := hid ht1
  have HB2 := hid (hb1.trans (hvb.mono hb1.size))
  have HH := hid (Nat.le_trans ho1.cap.1 ho1.cap.2)
  have HL := hid (Nat.le_trans hl1.cap.1 hl1.cap.2)
  clear ho1 hl1 hf1 hg1 ht1 hb1 hvb hbig
  go_wp2_with fail
  generalize hw2 : w1.alloc (.cells #[.slice A1 h.length c1, .slice K1 l.length d1] 39) = w2 at *
  clear hw2
  refine (impl_Free A1 c1 h K1 d1 l t w2 RA.out HF.out CA.out.1 CA.out.2 RK.out HG.out CK.out.1 CK.out.2).mono ?_
  rintro e w3 ⟨A3, c3, K3, d3, W3, e3, rfl, hA3, hK3, hI3, _, hb3⟩
  have hnb : Below w3.heap.size w3 (w3.alloc (.cells #[.slice A3 (freeR h l t).1.length c3, .slice K3 (freeR h l t).2.1.length d3] 39)) := Bl.al (Below.refl _ _)
  have N := hid (Row2.lit w3 39 (.slice A3 (freeR h l t).1.length c3) (.slice K3 (freeR h l t).2.1.length d3))
  have NA := hid (hA3.below hnb).rh
  have NK := hid (hK3.below hnb).rh
  have NI := hid (hI3.below hnb).ri
  have LA := hid hA3.cap
  have LB := hid hK3.cap
  have LC := hid (Nat.le_trans hI3.cap.1 hI3.cap.2)
  have LA2 := hid (Nat.le_trans hA3.cap.1 hA3.cap.2)
  have LB2 := hid (Nat.le_trans hK3.cap.1 hK3.cap.2)
  have C2_3 := hid hb3
  have C2_4 := hid (hb3.trans (hnb.mono hb3.size))
  have HB4 := hid (HB2.out.trans (C2_4.out.mono HB2.out.size))
  have v0a := (V.out.below hb3).c0
  have v1a := (V.out.below hb3).c1
  have v0b := (V.out.below C2_4.out).c0
  have v1b := (V.out.below C2_4.out).c1
  clear hA3 hK3 hI3 hb3 hnb
  go_wp2_with fail
  clear v0a v1a v0b v1b
  generalize hw4 : w3.alloc (.cells #[.slice A3 (freeR h l t).1.length c3, .slice K3 (freeR h l t).2.1.length d3] 39) = w4 at *
  clear hw4
  refine (spec_Free A1 c1 h K1 d1 l t w4 ((RA.out.below C2_4.out).more C2_4.out.size) HF.out HH.out ((RK.out.below C2_4.out).more C2_4.out.size) HG.out HL.out).mono ?_
  rintro e w5 ⟨A5, c5, K5, d5, W5, e5, rfl, hA5, hK5, _, hI5, hb5⟩
  have hmb : Below w5.heap.size w5 (w5.alloc (.cells #[.slice A5 (freeR h l t).1.length c5, .slice K5 (freeR h l t).2.1.length d5] 39)) := Bl.al (Below.refl _ _)
  have M := hid (Row2.lit w5 39 (.slice A5 (freeR h l t).1.length c5) (.slice K5 (freeR h l t).2.1.length d5))
  have MA := hid (hA5.below hmb).rh
  have MK := hid (hK5.below hmb).rh
  have MI := hid ((hI5.below hmb).more hmb.size)
  have C4_6 := hid (hb5.trans (hmb.mono hb5.size))
  have C2_6 := hid (C2_4.out.trans (C4_6.out.mono C2_4.out.size))
  have HB6 := hid (HB4.out.trans (C4_6.out.mono HB4.out.size))
  have n0a := (N.out.below hb5).c0
  have n1a := (N.out.below hb5).c1
  have n0b := (N.out.below C4_6.out).c0
  have n1b := (N.out.below C4_6.out).c1
  clear hA5 hK5 hI5 hb5 hmb
  go_wp2_with fail
  clear n0a n1a n0b n1b
  generalize hw6 : w5.alloc (.cells #[.slice A5 (freeR h l t).1.length c5, .slice K5 (freeR h l t).2.1.length d5] 39) = w6 at *
  clear hw6
  refine (sameLocks_same A3 c3 (freeR h l t).1 K3 d3 (freeR h l t).2.1 A5 c5 K5 d5 w6 ((NA.out.below C4_6.out).more C4_6.out.size) LA2.out ((NK.out.below C4_6.out).more C4_6.out.size) LB2.out MA.out MK.out).mono ?_
  rintro e w7 ⟨rfl, hb7⟩
  have C6_7 := hid hb7
  have C4_7 := hid (C4_6.out.trans (hb7.mono C4_6.out.size))
  have C2_7 := hid (C2_6.out.trans (hb7.mono C2_6.out.size))
  have HB7 := hid (HB6.out.trans (hb7.mono HB6.out.size))
  clear hb7
  go_wp2_with fail
  refine (sameInts_same W3 W5 e3 e5 (freeR h l t).2.2 w7.heap.size w7 ((NI.out.below C4_7.out).more C4_7.out.size) ((MI.out.below C6_7.out).more C6_7.out.size) LC.out).mono ?_
  rintro e w8 ⟨rfl, hd8⟩
  have C6_8 := hid (C6_7.out.trans (hd8.below _))
  have C4_8 := hid (C4_7.out.trans (hd8.below _))
  have C2_8 := hid (C2_7.out.trans (hd8.below _))
  have HB8 := hid (HB7.out.trans (hd8.below _))
  clear hd8
  have v0 := (V.out.below C2_8.out).c0
  have v1 := (V.out.below C2_8.out).c1
  go_wp2_with fail
  refine (spec_LocksOk A1 c1 h K1 d1 l w8 ((RA.out.below C2_8.out).more C2_8.out.size) HF.out HH.out ((RK.out.below C2_8.out).more C2_8.out.size) HG.out HL.out).mono ?_
  rintro e w9 ⟨rfl, hb9⟩
  have C6_9 := hid (C6_8.out.trans (hb9.mono C6_8.out.size))
  have C4_9 := hid (C4_8.out.trans (hb9.mono C4_8.out.size))
  have C2_9 := hid (C2_8.out.trans (hb9.mono C2_8.out.size))
  have HB9 := hid (HB8.out.trans (hb9.mono HB8.out.size))
  clear hb9 v0 v1
  have n0 := (N.out.below C4_9.out).c0
  have n1 := (N.out.below C4_9.out).c1
  cases hlk : locksB h l
  case false =>
    have m0 := (M.out.below C6_9.out).c0
    have m1 := (M.out.below C6_9.out).c1
    go_wp2_with fail
    refine (sameLocks_same A3 c3 (freeR h l t).1 K3 d3 (freeR h l t).2.1 A5 c5 K5 d5 w9 ((NA.out.below C4_9.out).more C4_9.out.size) LA2.out ((NK.out.below C4_9.out).more C4_9.out.size) LB2.out ((MA.out.below C6_9.out).more C6_9.out.size) ((MK.out.below C6_9.out).more C6_9.out.size)).mono ?_
    rintro e w10 ⟨rfl, hb10⟩
    have C6_10 := hid (C6_9.out.trans (hb10.mono C6_9.out.size))
    have C4_10 := hid (C4_9.out.trans (hb10.mono C4_9.out.size))
    have HB10 := hid (HB9.out.trans (hb10.mono HB9.out.size))
    clear hb10
    go_wp2_with fail
    refine (sameInts_same W3 W5 e3 e5 (freeR h l t).2.2 w10.heap.size w10 ((NI.out.below C4_10.out).more C4_10.out.size) ((MI.out.below C6_10.out).more C6_10.out.size) LC.out).mono ?_
    rintro e w11 ⟨rfl, hd11⟩
    have HB11 := hid (HB10.out.trans (hd11.below _))
    clear hd11
    go_wp2_with fail
    go_ret
    exact ⟨rfl, HB11.out⟩
  case true =>
    have HE : Hid (freeR h l t = freeL h l t) := by rw [Hid, freeR, if_pos hlk]
    have HTL : Hid ((freeR h l t).1.length + (freeR h l t).2.1.length ≤ 10) := by
      rw [HE.out]
      have := (free_total hlk t).1
      have := HT.out
      unfold Hid
      omega
    have HOK : Hid (locksB (freeR h l t).1 (freeR h l t).2.1 = true) := by
      rw [HE.out]
      exact free_ok hlk t (by have := HT.out; omega)
    have HP1 : Hid (∀ z ∈ (freeR h l t).1, z.1 ≠ t) := by
      rw [HE.out]
      exact free_held hlk t
    have HP2 : Hid (∀ z ∈ (freeR h l t).2.1, z.1 ≠ t ∧ z.1 ∉ (freeR h l t).2.2) := by
      rw [HE.out]
      exact free_line hlk t
    have HP3 : Hid (∀ x ∈ h, x.1 ≠ t → ∃ z ∈ (freeR h l t).1, z.1 = x.1 ∧ z.2.1 = x.2.1) := by
      rw [HE.out]
      exact free_kept hlk t
    have HFF := hid (locks_fits HOK.out)
    have N9 := hid (N.out.below C4_9.out)
    have NA9 := hid ((NA.out.below C4_9.out).more C4_9.out.size)
    have NK9 := hid ((NK.out.below C4_9.out).more C4_9.out.size)
    have NI9 := hid ((NI.out.below C4_9.out).more C4_9.out.size)
    have V9 := hid (V.out.below C2_9.out)
    have RA9 := hid ((RA.out.below C2_9.out).more C2_9.out.size)
    have hh10 : h.length ≤ 10 := by have := HT.out; omega
    clear hlk HE n0 n1
    generalize hR : (freeR h l t) = Q at *
    clear hR
    have hQ1 : Q.1.length ≤ 10 := by have := HTL.out; omega
    have hQ2 : Q.2.1.length ≤ 10 := by have := HTL.out; omega
    have n0 := N9.out.c0
    have n1 := N9.out.c1
    go_wp2_with fail
    go_loopw [9] (fun iv wr => ∃ i : Nat, i ≤ Q.1.length ∧ iv = .int .i64 (i : Int) ∧ Hid (Below w9.heap.size w9 wr)) (fun iv _ => Q.1.length - (intOf iv).toNat)
    case atStart => exact ⟨0, Nat.zero_le _, rfl, Below.refl _ _⟩
    case round =>
      obtain ⟨i, hi, rfl, HA⟩ := hrel
      clear n0 n1
      have n0 := (N9.out.below HA.out).c0
      have n1 := (N9.out.below HA.out).c1
      by_cases hlt : i < Q.1.length
      · obtain ⟨b, off, hK, hb, hc1, hc2, hc3⟩ := ((NA9.out.below HA.out).more HA.out.size).at_ hlt
        subst hK
        have e5 : (0 : Int) ≤ (i : Int) := by omega
        have e6 : (i : Int) < (Q.1.length : Int) := by omega
        have g1 := eqI_false (HP1.out _ (List.getElem_mem hlt))
        go_wp2_with fail
        go_roundw
        case rel => exact ⟨i + 1, by omega, by go_num, HA.out⟩
        case measure => simp [intOf]; omega
      · obtain rfl : i = Q.1.length := by omega
        go_wp2_with fail
        clear n0 n1
        obtain ⟨wa, rfl⟩ : ∃ wa, wa = wr := ⟨_, rfl⟩
        have n0 := (N9.out.below HA.out).c0
        have n1 := (N9.out.below HA.out).c1
        go_loopw [10] (fun iv wr => ∃ i : Nat, i ≤ Q.2.1.length ∧ iv = .int .i64 (i : Int) ∧ Hid (Below w9.heap.size w9 wr)) (fun iv _ => Q.2.1.length - (intOf iv).toNat)
        case atStart => exact ⟨0, Nat.zero_le _, rfl, HA.out⟩
        case round =>
          obtain ⟨i, hi2, rfl, HA2⟩ := hrel
          clear n0 n1
          have n0 := (N9.out.below HA2.out).c0
          have n1 := (N9.out.below HA2.out).c1
          by_cases hlt2 : i < Q.2.1.length
          · obtain ⟨b, off, hK, hb, hc1, hc2, hc3⟩ := ((NK9.out.below HA2.out).more HA2.out.size).at_ hlt2
            have hcap := LB.out
            subst hK
            have e5 : (0 : Int) ≤ (i : Int) := by omega
            have e6 : (i : Int) < (Q.2.1.length : Int) := by omega
            have hp := HP2.out _ (List.getElem_mem hlt2)
            have g1 := eqI_false hp.1
            have HM : Hid (decide (Q.2.1[i].1 ∈ Q.2.2) = false) := decide_eq_false hp.2
            clear hp hcap
            go_wp2_with fail
            refine (hasL_any W3 e3 Q.2.2 Q.2.1[i].1 _ _ ((NI9.out.below HA2.out).more HA2.out.size) LC.out).mono ?_
            rintro e wb ⟨rfl, hdb⟩
            have HA3 := hid (HA2.out.trans (hdb.below _))
            have g2 := HM.out
            clear hdb
            go_wp2_with fail
            go_roundw
            case rel => exact ⟨i + 1, by omega, by go_num, HA3.out⟩
            case measure => simp [intOf]; omega
          · obtain rfl : i = Q.2.1.length := by omega
            go_wp2_with fail
            clear n0 n1
            obtain ⟨wb, rfl⟩ : ∃ wb, wb = wr := ⟨_, rfl⟩
            have v0 := (V9.out.below HA2.out).c0
            have v1 := (V9.out.below HA2.out).c1
            go_loopw [11] (fun iv wr => ∃ i : Nat, i ≤ h.length ∧ iv = .int .i64 (i : Int) ∧ Hid (Below w9.heap.size w9 wr)) (fun iv _ => h.length - (intOf iv).toNat)
            case atStart => exact ⟨0, Nat.zero_le _, rfl, HA2.out⟩
            case round =>
              obtain ⟨i, hi3, rfl, HA3⟩ := hrel
              clear v0 v1
              have v0 := (V9.out.below HA3.out).c0
              have v1 := (V9.out.below HA3.out).c1
              by_cases hlt3 : i < h.length
              · obtain ⟨b, off, hK, hb, hc1, hc2, hc3⟩ := ((RA9.out.below HA3.out).more HA3.out.size).at_ hlt3
                subst hK
                have e5 : (0 : Int) ≤ (i : Int) := by omega
                have e6 : (i : Int) < (h.length : Int) := by omega
                have hxb : Below wr.heap.size wr (wr.alloc (.cells #[.int .i64 h[i].1, .string h[i].2.1, .int .i64 h[i].2.2] 49)) := Bl.al (Below.refl _ _)
                have X := hid (Row3.lit wr 49 (.int .i64 h[i].1) (.string h[i].2.1) (.int .i64 h[i].2.2))
                have D2 := hid (HA3.out.trans (hxb.mono HA3.out.size))
                have x0 := X.out.c0
                have HKEPT : Hid ((decide (h[i].1 = t) || Q.1.any fun z => ownB z h[i]) = true) := by
                  by_cases hx : h[i].1 = t
                  · simp [Hid, hx]
                  · obtain ⟨z, hz, z1, z2⟩ := HP3.out _ (List.getElem_mem hlt3) hx
                    have : (Q.1.any fun z => ownB z h[i]) = true := List.any_eq_true.2 ⟨z, hz, by simp [ownB, z1, z2]⟩
                    rw [Hid, this, Bool.or_true]
                clear hxb
                go_wp2_with fail
                clear v0 v1 hc1 hc2 hc3 x0
                obtain ⟨wc, rfl⟩ : ∃ wc, wc = wr := ⟨_, rfl⟩
                generalize hwx : wc.alloc (.cells #[.int .i64 h[i].1, .string h[i].2.1, .int .i64 h[i].2.2] 49) = wx at *
                clear hwx
                have n0 := (N9.out.below D2.out).c0
                have n1 := (N9.out.below D2.out).c1
                go_loopw [13, 14] (fun wv kv wr => ∃ (j : Nat) (wt : Bool), j ≤ Q.1.length ∧ kv = .int .i64 (j : Int) ∧ wv = .bool wt ∧ Hid (wt = (decide (h[i].1 = t) || (Q.1.take j).any fun z => ownB z h[i])) ∧ Hid (Below wx.heap.size wx wr)) (fun _ kv _ => Q.1.length - (intOf kv).toNat)
                case atStart => exact ⟨0, decide (h[i].1 = t), Nat.zero_le _, rfl, rfl, by simp [Hid], Below.refl _ _⟩
                case round =>
                  obtain ⟨j, wt, hj, rfl, rfl, HWT, HD3⟩ := hrel
                  clear n0 n1
                  have n0 := (N9.out.below (D2.out.trans (HD3.out.mono D2.out.size))).c0
                  have n1 := (N9.out.below (D2.out.trans (HD3.out.mono D2.out.size))).c1
                  by_cases hlj : j < Q.1.length
                  · obtain ⟨b2, off2, hK2, hb2, hd1, hd2, hd3⟩ := ((NA9.out.below (D2.out.trans (HD3.out.mono D2.out.size))).more (D2.out.trans (HD3.out.mono D2.out.size)).size).at_ hlj
                    subst hK2
                    have HTS := hid (any_take_succ hlj (fun z : Int × ByteArray × Int => ownB z h[i]))
                    have f5 : (0 : Int) ≤ (j : Int) := by omega
                    have f6 : (j : Int) < (Q.1.length : Int) := by omega
                    have x0 := (X.out.below HD3.out).c0
                    have x1 := (X.out.below HD3.out).c1
                    cases wt
                    case true =>
                      have HX : Hid (true = (decide (h[i].1 = t) || (Q.1.take (j + 1)).any fun z => ownB z h[i])) := by
                        rw [Hid, HTS.out, ← Bool.or_assoc, ← HWT.out]
                        rfl
                      go_wp2_with fail
                      go_quiet (fail)
                      go_wp2_with fail
                      go_roundw
                      case rel => exact ⟨j + 1, _, by omega, by go_num, rfl, HX.out, Below.drewN_ HD3.out _⟩
                      case measure => simp [intOf]; omega
                    case false =>
                      by_cases htx : Q.1[j].1 = h[i].1
                      · have g1 := eqI_true htx
                        by_cases hkey : Q.1[j].2.1 = h[i].2.1
                        · have g2 := eqS_true hkey
                          have HX : Hid (true = (decide (h[i].1 = t) || (Q.1.take (j + 1)).any fun z => ownB z h[i])) := by
                            rw [Hid, HTS.out]
                            simp [ownB, htx, hkey]
                          clear htx hkey
                          go_wp2_with fail
                          go_quiet (fail)
                          go_wp2_with fail
                          go_roundw
                          case rel => exact ⟨j + 1, _, by omega, by go_num, rfl, HX.out, Below.drewN_ HD3.out _⟩
                          case measure => simp [intOf]; omega
                        · have g2 := eqS_false hkey
                          have HX : Hid (false = (decide (h[i].1 = t) || (Q.1.take (j + 1)).any fun z => ownB z h[i])) := by
                            rw [Hid, HTS.out, ← Bool.or_assoc, ← HWT.out]
                            simp [ownB, hkey]
                          clear htx hkey
                          go_wp2_with fail
                          go_quiet (fail)
                          go_wp2_with fail
                          go_roundw
                          case rel => exact ⟨j + 1, _, by omega, by go_num, rfl, HX.out, Below.drewN_ HD3.out _⟩
                          case measure => simp [intOf]; omega
                      · have g1 := eqI_false htx
                        have HX : Hid (false = (decide (h[i].1 = t) || (Q.1.take (j + 1)).any fun z => ownB z h[i])) := by
                          rw [Hid, HTS.out, ← Bool.or_assoc, ← HWT.out]
                          simp [ownB, htx]
                        clear htx
                        go_wp2_with fail
                        go_quiet (fail)
                        go_wp2_with fail
                        go_roundw
                        case rel => exact ⟨j + 1, _, by omega, by go_num, rfl, HX.out, Below.drewN_ HD3.out _⟩
                        case measure => simp [intOf]; omega
                  · obtain rfl : j = Q.1.length := by omega
                    have hwt : wt = true := by
                      rw [HWT.out, List.take_length]
                      exact HKEPT.out
                    subst hwt
                    go_wp2_with fail
                    go_roundw
                    case rel => exact ⟨i + 1, by omega, by go_num, D2.out.trans (HD3.out.mono D2.out.size)⟩
                    case measure => simp [intOf]; omega
              · obtain rfl : i = h.length := by omega
                have n0 := (N9.out.below HA3.out).c0
                have n1 := (N9.out.below HA3.out).c1
                have g3 := HOK.out
                go_wp2_with fail
                refine (impl_LocksOk A3 c3 Q.1 K3 d3 Q.2.1 _ ((NA9.out.below HA3.out).more HA3.out.size) HFF.out.1 LA.out.1 LA.out.2 ((NK9.out.below HA3.out).more HA3.out.size) HFF.out.2 LB.out.1 LB.out.2).mono ?_
                rintro e we ⟨rfl, hbe⟩
                have HA4 := hid (HB9.out.trans ((HA3.out.trans (hbe.mono HA3.out.size)).mono HB9.out.size))
                clear hbe
                go_wp2_with fail
                go_ret
                exact ⟨rfl, HA4.out⟩
end Go.Proofs.Ytjdmaoegfpgfjaa
