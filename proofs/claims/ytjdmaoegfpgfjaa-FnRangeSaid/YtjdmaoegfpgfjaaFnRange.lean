/-
  FnRange: the walk.
-/
import Derived.Test.YtjdmaoegfpgfjaaSameMap
import Derived.Test.YtjdmaoegfpgfjaaMemFacts
import Derived.Test.YtjdmaoegfpgfjaaDrawsB
import Derived.Test.YtjdmaoegfpgfjaaRange
import Derived.Test.YtjdmaoegfpgfjaaFnMapPieces
namespace Go.Proofs.Ytjdmaoegfpgfjaa
open Go.RowKit

abbrev nulB : ByteArray := ⟨#[]⟩

theorem eqI_true' {x y : Int} (h : x = y) : (x == y) = true := by simp [h]
theorem eqI_false' {x y : Int} (h : x ≠ y) : (x == y) = false := by simp [h]

set_option maxHeartbeats 3000000 in
set_option maxRecDepth 200000 in
theorem fnRange_walk (A : Option Addr) (n c : Nat) (w : World) (hc : CB w w.heap.size A n) (hn : n ≤ maxLen) :
    Calls Try.prog 4 #[.slice A n c] w fun e w' => e = .returned (.bool true) ∧ Below w.heap.size w w' := by
  have HC := hid hc
  clear hc
  obtain ⟨i0, hi0, hz0, hz1, hz2⟩ := info_parts pairInfo
  unfold maxLen at hn
  go_enter Try.func4, Try.ntmps4
  go_wp2_with fail
  refine (big_any A n c _).mono ?_
  rintro e w0 ⟨rfl, rfl⟩
  by_cases hbig : (1048576 : Int) < (n : Int)
  · go_wp2_with fail
    go_ret
    exact ⟨rfl, Below.refl _ _⟩
  go_wp2_with fail
  refine (drawRange_any A n c _ HC.out (by omega)).mono ?_
  rintro e w1 ⟨A1, c1, ps, lo, hi, rfl, ho1, hs1, hl1, hk1, hv1, hb1⟩
  have HO1 := hid ho1
  have HF1 := hid hs1.fits
  have HB1 := hid hb1
  clear ho1 hs1 hb1
  go_wp2_with fail
  refine (impl_Range A1 c1 ps lo hi _ HO1.out.rp HO1.out.vs HF1.out (by omega)).mono ?_
  rintro e w2 ⟨A2, c2, rfl, ho2, hw2⟩
  have HB2 := hid (HB1.out.trans (hw2.mono HB1.out.size))
  have N2 := hid ho2
  have R2 := hid (HO1.out.below hw2)
  clear ho2 hw2
  go_wp2_with fail
  refine (spec_Range A1 c1 ps lo hi _ R2.out.rp HF1.out (by omega)).mono ?_
  rintro e w3 ⟨A3, c3, rfl, ho3, hw3⟩
  have HB3 := hid (HB2.out.trans (hw3.mono HB2.out.size))
  have O3 := hid ho3
  have N3 := hid (N2.out.below hw3)
  have R3 := hid (R2.out.below hw3)
  clear ho3 hw3
  have hrl := rangeR_len ps lo hi
  have HLEN : Hid ((rangeR ps lo hi).length ≤ maxLen) := by show _ ≤ 2 ^ 63 - 1; omega
  have HPL : Hid (ps.length ≤ maxLen) := by show _ ≤ 2 ^ 63 - 1; omega
  have ht : decide (rangeR ps lo hi = rangeR ps lo hi) = true := by simp
  go_wp2_with fail
  refine (sameMap_any A2 A3 c2 c3 (rangeR ps lo hi) (rangeR ps lo hi) _ _ N3.out.rp O3.out.rp HLEN.out).mono ?_
  rintro e w4 ⟨rfl, hw4⟩
  have HB4 := hid (HB3.out.trans (hw4.below _))
  have N4 := hid (N3.out.below (hw4.below _))
  have R4 := hid (R3.out.below (hw4.below _))
  clear hw4
  go_wp2_with fail
  refine (spec_MapOk A1 c1 ps _ _ R4.out.rp HF1.out HPL.out).mono ?_
  rintro e w5 ⟨rfl, hw5⟩
  have HB5 := hid (HB4.out.trans (hw5.below _))
  have N5 := hid (N4.out.below (hw5.below _))
  have R5 := hid (R4.out.below (hw5.below _))
  clear hw5
  cases hm : mapB ps
  · go_wp2_with fail
    refine (spec_Range A1 c1 ps lo hi _ R5.out.rp HF1.out (by omega)).mono ?_
    rintro e w6 ⟨A6, c6, rfl, ho6, hw6⟩
    have HB6 := hid (HB5.out.trans (hw6.mono HB5.out.size))
    have O6 := hid ho6
    have N6 := hid (N5.out.below hw6)
    clear ho6 hw6
    go_wp2_with fail
    refine (sameMap_any A2 A6 c2 c6 (rangeR ps lo hi) (rangeR ps lo hi) _ _ N6.out.rp O6.out.rp HLEN.out).mono ?_
    rintro e w7 ⟨rfl, hw7⟩
    have HB7 := hid (HB6.out.trans (hw7.below _))
    clear hw7
    go_wp2_with fail
    go_ret
    exact ⟨rfl, HB7.out⟩
  · have HRR : Hid (∀ a b, rangeR ps a b = rangeL ps a b) := fun a b => by rw [rangeR, hm, if_pos rfl]
    have HS := hid (mapB_iff.1 hm).2.2
    have P5 := hid R5.out.rp
    have Q5 := hid N5.out.rp
    have HRS := hid (HRR.out lo hi)
    clear hm
    go_wp2_with fail
    go_loopw [7, 8] (fun t i wr => ∃ k a : Nat, k ≤ ps.length ∧ i = .int .i64 k ∧ t = .int .i64 a ∧ Hid (a = (rangeL (ps.take k) lo hi).length) ∧ a ≤ k ∧ Drawn w5 wr) (fun _ i _ => ps.length - (intOf i).toNat)
    case atStart => exact ⟨0, 0, Nat.zero_le _, rfl, rfl, rfl, Nat.le_refl _, Drawn.refl w5⟩
    case round =>
      obtain ⟨k, a, hk, rfl, rfl, HA, hak, hdr⟩ := hrel
      have HD := hid hdr
      have PP := hid (P5.out.below (hdr.below _))
      have QQ := hid (Q5.out.below (hdr.below _))
      clear hdr
      by_cases hlt : k < ps.length
      · obtain ⟨b, off, rfl, hb, hc1, hc2⟩ := PP.out.at_ hlt
        have HSU := hid (rangeL_succ lo hi hlt)
        have e5 : (0 : Int) ≤ (k : Int) := by omega
        have e6 : (k : Int) < (ps.length : Int) := by omega
        have e7 : (0 : Int) ≤ (a : Int) := by omega
        have HOUT : Hid (inR lo hi ps[k] = false → a = (rangeL (ps.take (k + 1)) lo hi).length) := fun h => by rw [HSU.out, h, if_neg (by simp)]; exact HA.out
        have HIN : Hid (inR lo hi ps[k] = true → a + 1 = (rangeL (ps.take (k + 1)) lo hi).length) := fun h => by rw [HSU.out, h, if_pos rfl, List.length_append, ← HA.out]; rfl
        have HGET : Hid (inR lo hi ps[k] = true → ∃ hl : a < (rangeR ps lo hi).length, (rangeR ps lo hi)[a] = ps[k]) := fun h => by
          obtain ⟨hl, he⟩ := rangeL_at hlt h
          have ha := HA.out
          subst ha
          refine ⟨by rw [HRS.out]; exact hl, ?_⟩
          simp only [HRS.out]
          exact he
        cases h1 : ltS ps[k].1 lo
        · have q1 : Op.bytesLess ps[k].1.toList lo.toList = false := h1
          by_cases h2 : hi.size = 0
          · have g2 := empty_yes h2
            have HY : Hid (inR lo hi ps[k] = true) := by simp [Hid, inR, h1, h2]
            clear h1 h2
            obtain ⟨hal, hat⟩ := HGET.out HY.out
            obtain ⟨b', off', rfl, hb', hc3, hc4⟩ := QQ.out.at_ hal
            have e8 : (a : Int) < ((rangeR ps lo hi).length : Int) := by omega
            have e9 : ((a : Int) == ((rangeR ps lo hi).length : Int)) = false := eqI_false' (by omega)
            have hq := neqPair (rangeR ps lo hi)[a] ps[k]
            have hm := pairGuard
            rw [show decide ((rangeR ps lo hi)[a] = ps[k]) = true by simp [hat]] at hq
            clear hat
            go_wp2_with fail
            go_quiet (fail)
            go_wp2_with fail
            go_roundw
            case rel => exact ⟨k + 1, a + 1, by omega, by go_num, by go_num, HIN.out HY.out, by omega, HD.out.drewN _⟩
            case measure => simp [intOf]; omega
          · have g2 := empty_no h2
            cases h3 : ltS ps[k].1 hi
            · have g3 : Op.bytesLess ps[k].1.toList hi.toList = false := h3
              have HY : Hid (inR lo hi ps[k] = false) := by simp [Hid, inR, h1, h2, h3]
              clear h1 h2 h3
              go_wp2_with fail
              go_roundw
              case rel => exact ⟨k + 1, a, by omega, by go_num, rfl, HOUT.out HY.out, by omega, HD.out⟩
              case measure => simp [intOf]; omega
            · have g3 : Op.bytesLess ps[k].1.toList hi.toList = true := h3
              have HY : Hid (inR lo hi ps[k] = true) := by simp [Hid, inR, h1, h3]
              clear h1 h2 h3
              obtain ⟨hal, hat⟩ := HGET.out HY.out
              obtain ⟨b', off', rfl, hb', hc3, hc4⟩ := QQ.out.at_ hal
              have e8 : (a : Int) < ((rangeR ps lo hi).length : Int) := by omega
              have e9 : ((a : Int) == ((rangeR ps lo hi).length : Int)) = false := eqI_false' (by omega)
              have hq := neqPair (rangeR ps lo hi)[a] ps[k]
              have hm := pairGuard
              rw [show decide ((rangeR ps lo hi)[a] = ps[k]) = true by simp [hat]] at hq
              clear hat
              go_wp2_with fail
              go_quiet (fail)
              go_wp2_with fail
              go_roundw
              case rel => exact ⟨k + 1, a + 1, by omega, by go_num, by go_num, HIN.out HY.out, by omega, HD.out.drewN _⟩
              case measure => simp [intOf]; omega
        · have q1 : Op.bytesLess ps[k].1.toList lo.toList = true := h1
          have HY : Hid (inR lo hi ps[k] = false) := by simp [Hid, inR, h1]
          clear h1
          go_wp2_with fail
          go_roundw
          case rel => exact ⟨k + 1, a, by omega, by go_num, rfl, HOUT.out HY.out, by omega, HD.out⟩
          case measure => simp [intOf]; omega
      · obtain rfl : k = ps.length := by omega
        have HAL : Hid (a = (rangeR ps lo hi).length) := by
          have := HA.out
          rw [List.take_length] at this
          rw [HRS.out]
          exact this
        have HE : Hid ([] ++ rangeR ps nulB midB ++ rangeR ps midB nulB = ps) := by
          rw [HRR.out, HRR.out, List.nil_append]
          exact (range_glue HS.out (by decide) (ltS_empty rfl) (.inl rfl)).trans (range_all _ _ rfl rfl)
        have HE2 : Hid (rangeR ps nulB nulB = ps) := by
          rw [HRR.out]
          exact range_all _ _ rfl rfl
        have HBV := hid (HB5.out.trans (HD.out.below _))
        obtain ⟨v0, hv0⟩ : ∃ v0, v0 = wr := ⟨_, rfl⟩
        subst hv0
        have PV := hid (PP.out.more (by have := (HD.out.below w5.heap.size).size; exact this))
        have QV := hid (QQ.out.more (by have := (HD.out.below w5.heap.size).size; exact this))
        have HV := HO1.out.vs
        have HVV := hid HV
        have U5 : Hid (∀ o : Obj, Below v0.heap.size v0 (v0.alloc o)) := fun o => (Below.refl _ _).alloc (Nat.le_refl _) o
        clear HV
        go_wp2_with fail
        refine (impl_Range A1 c1 ps nulB midB _ ((PV.out.below (U5.out _)).more (U5.out _).size) HVV.out HF1.out (by omega)).mono ?_
        rintro e w6 ⟨A6, c6, rfl, ho6, hw6⟩
        have X6 := hid ho6
        have E6 := hid ((OwnP.made (w := v0) (Nat.le_refl _) #[] 0 rfl (Nat.zero_le _)).below hw6)
        have U6 := hid ((U5.out _).trans (hw6.mono (U5.out _).size))
        clear ho6 hw6
        go_wp2_with (at_builtin; refine wpList_append_rp _ rfl _ _ _ rfl i0 Try.underlying24 hi0 hz0 hz1 hz2 v0.heap.size _ _ _ [] rfl rfl E6.out _ _ _ _ (rangeR ps nulB midB) rfl rfl X6.out.rp (by have := rangeR_len ps nulB midB; simp; omega) (by have := U6.out.size; omega) ?_; intro A7 n7 c7 w7 hn7 hown7 hbw7; have HN7 := hid hn7; have X7 := hid hown7; have U7 := hid (U6.out.trans hbw7); clear hn7 hown7 hbw7)
        go_wp2_with fail
        refine (impl_Range A1 c1 ps midB nulB _ ((PV.out.below U7.out).more U7.out.size) HVV.out HF1.out (by omega)).mono ?_
        rintro e w8 ⟨A8, c8, rfl, ho8, hw8⟩
        have Y8 := hid ho8
        have X8 := hid (X7.out.below hw8)
        have U8 := hid (U7.out.trans (hw8.mono U7.out.size))
        clear ho8 hw8
        have hal : ((a : Int) == ((rangeR ps lo hi).length : Int)) = true := eqI_true' (by rw [HAL.out])
        go_wp2_with (at_builtin; refine wpList_append_rp _ rfl _ _ _ rfl i0 Try.underlying24 hi0 hz0 hz1 hz2 v0.heap.size A7 n7 c7 ([] ++ rangeR ps nulB midB) rfl HN7.out X8.out _ _ _ _ (rangeR ps midB nulB) rfl rfl Y8.out.rp (by have := rangeR_len ps nulB midB; have := rangeR_len ps midB nulB; simp; omega) (by have := U8.out.size; omega) ?_; intro A9 n9 c9 w9 hn9 hown9 hbw9; have HN9 := hid hn9; have X9 := hid hown9; have U9 := hid (U8.out.trans hbw9); clear hn9 hown9 hbw9)
        have ht2 : decide ([] ++ rangeR ps nulB midB ++ rangeR ps midB nulB = ps) = true := by simpa using HE.out
        have HL9 : Hid (([] ++ rangeR ps nulB midB ++ rangeR ps midB nulB).length ≤ maxLen) := by
          rw [HE.out]
          exact HPL.out
        have hsm := sameMap_any A9 A1 c9 c1 _ ps _ _ X9.out.rp ((PV.out.below U9.out).more U9.out.size) HL9.out
        rw [ht2, ← HN9.out] at hsm
        have HSM := hid hsm
        clear hsm ht2
        go_wp2_with fail
        refine HSM.out.mono ?_
        rintro e w10 ⟨rfl, hw10⟩
        have U10 := hid (U9.out.trans (hw10.below _))
        clear hw10
        have hr := impl_Range A1 c1 ps nulB nulB w10 ((PV.out.below U10.out).more U10.out.size) HVV.out HF1.out (by omega)
        rw [HE2.out] at hr
        have HR11 := hid hr
        clear hr
        go_wp2_with fail
        refine HR11.out.mono ?_
        rintro e w11 ⟨A11, c11, rfl, ho11, hw11⟩
        have O11 := hid ho11
        have U11 := hid (U10.out.trans (hw11.mono U10.out.size))
        clear ho11 hw11
        have hpp : decide (ps = ps) = true := by simp
        go_wp2_with fail
        refine (sameMap_any A11 A1 c11 c1 ps ps _ _ O11.out.rp ((PV.out.below U11.out).more U11.out.size) HPL.out).mono ?_
        rintro e w12 ⟨rfl, hw12⟩
        have HB12 := hid (HBV.out.trans ((U11.out.trans (hw12.below _)).mono HBV.out.size))
        clear hw12
        go_wp2_with fail
        go_ret
        exact ⟨rfl, HB12.out⟩
end Go.Proofs.Ytjdmaoegfpgfjaa
