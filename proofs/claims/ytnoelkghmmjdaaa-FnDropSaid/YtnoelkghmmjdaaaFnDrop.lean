/-
  FnDrop: the walk.
-/
import Derived.Test.YtnoelkghmmjdaaaSameMap
import Derived.Test.YtnoelkghmmjdaaaMemFacts
import Derived.Test.YtnoelkghmmjdaaaDrawsB
namespace Go.Proofs.Ytnoelkghmmjdaaa
open Go.RowKit

set_option maxHeartbeats 8000000 in
set_option maxRecDepth 200000 in
theorem fnDrop_walk (A : Option Addr) (n c : Nat) (w : World) (hc : CB w w.heap.size A n) (hn : n ≤ maxLen) :
    Calls Try.prog 4 #[.slice A n c] w fun e w' => e = .returned (.bool true) ∧ Below w.heap.size w w' := by
  have HC := hid hc
  clear hc
  unfold maxLen at hn
  go_enter Try.func4, Try.ntmps4
  go_wp2_with fail
  refine (big_any A n c _).mono ?_
  rintro e w0 ⟨rfl, rfl⟩
  by_cases hbig : (1048576 : Int) < (n : Int)
  · go_wp2_with fail
    go_ret
    exact ⟨rfl, Below.refl _ _⟩
  go_wp2_with fail
  refine (drawDrop_any A n c _ HC.out (by omega)).mono ?_
  rintro e w1 ⟨A1, c1, ps, k, rfl, ho1, hs1, hl1, hk1, hb1⟩
  have HO1 := hid ho1
  have HF1 := hid hs1.fits
  have hkz : k.size ≤ maxLen := by unfold maxLen; omega
  have HKZ := hid hkz
  clear ho1 hs1 hkz
  go_wp2_with fail
  refine (impl_Drop A1 c1 ps k _ HO1.out.rp HO1.out.vs HF1.out (by omega)).mono ?_
  rintro e w2 ⟨A2, c2, rfl, ho2, hw2⟩
  have hb2 := hb1.trans (hw2.mono hb1.size)
  have HO2 := hid ho2
  have R2 := hid (HO1.out.below hw2)
  clear ho2
  go_wp2_with fail
  refine (spec_Drop A1 c1 ps k _ R2.out.rp HF1.out (by omega)).mono ?_
  rintro e w3 ⟨A3, c3, rfl, ho3, hw3⟩
  have hb3 := hb2.trans (hw3.mono hb2.size)
  have HO3 := hid ho3
  have N3 := hid (HO2.out.below hw3)
  have R3 := hid (R2.out.below hw3)
  clear ho3
  have HC3 : Hid (CB w3 w3.heap.size A n) := by
    have h := HC.out.grown (grown_of_below (r := none) hb3) (Nat.le_refl _) (by simp)
    rcases h with h | ⟨b, off, e, hb', hx⟩
    · exact .inl h
    · exact .inr ⟨b, off, e, Nat.lt_of_lt_of_le hb' hb3.size, hx⟩
  go_wp2_with fail
  refine (drawGet_any A n c _ HC3.out (by omega)).mono ?_
  rintro e w4 ⟨A4, c4, qs, y, rfl, ho4, hs4, hl4, hk4, hw4⟩
  have hb4 := hb3.trans (hw4.mono hb3.size)
  have HO4 := hid ho4
  have HF4 := hid hs4.fits
  have N4 := hid (N3.out.below hw4)
  have R4 := hid (R3.out.below hw4)
  have W4 := hid (HO3.out.below hw4)
  have hql : qs.length ≤ maxLen := by unfold maxLen; omega
  have HQL := hid hql
  clear ho4 hs4 hql
  go_wp2_with fail
  refine (impl_Get A4 c4 qs y _ HO4.out.rp HF4.out HQL.out).mono ?_
  rintro e w5 ⟨rfl, hw5⟩
  have hb5 := hb4.trans (hw5.mono hb4.size)
  have Q5 := hid (HO4.out.below hw5)
  have N5 := hid (N4.out.below hw5)
  have R5 := hid (R4.out.below hw5)
  have W5 := hid (W4.out.below hw5)
  go_wp2_with fail
  refine (spec_Get A4 c4 qs y _ _ Q5.out.rp HF4.out HQL.out).mono ?_
  rintro e w6 ⟨rfl, hw6⟩
  have hb6 := hb5.trans (hw6.below _)
  have N6 := hid (N5.out.below (hw6.below _))
  have R6 := hid (R5.out.below (hw6.below _))
  have W6 := hid (W5.out.below (hw6.below _))
  have hlen : (dropR ps k).length ≤ maxLen := by
    unfold dropR maxLen
    split
    · have := dropL_len ps k
      omega
    · simp
  have HLEN := hid hlen
  have ht : decide (dropR ps k = dropR ps k) = true := by simp
  have hvv : ((getV qs y).toList != (getV qs y).toList) = false := by simp
  have hvw : ((getV qs y).toList == (getV qs y).toList) = true := by simp
  have hbb : (getB qs y != getB qs y) = false := by simp
  have hbc : (getB qs y == getB qs y) = true := by simp
  have HB6 := hid hb6
  clear hlen hb1 hb2 hb3 hb4 hb5 hb6 hw2 hw3 hw4 hw5 hw6
  cases hp : getB ps k
  · go_wp2_with fail
    refine (sameMap_any A2 A3 c2 c3 (dropR ps k) (dropR ps k) _ _ N6.out.rp W6.out.rp HLEN.out).mono ?_
    rintro e w7 ⟨rfl, hw7⟩
    have HB7 := hid (HB6.out.trans (hw7.below _))
    have N7 := hid (N6.out.rp.below (hw7.below _))
    have W7 := hid (W6.out.rp.below (hw7.below _))
    clear hw7
    go_wp2_with fail
    refine (sameMap_any A2 A3 c2 c3 (dropR ps k) (dropR ps k) _ _ N7.out W7.out HLEN.out).mono ?_
    rintro e w8 ⟨rfl, hw8⟩
    have HB8 := hid (HB7.out.trans (hw8.below _))
    clear hw8
    go_wp2_with fail
    go_ret
    exact ⟨rfl, HB8.out⟩
  · have hpp := hp
    simp only [getB, Bool.and_eq_true] at hpp
    obtain ⟨hm, hh⟩ := hpp
    have HL : Hid (dropR ps k = dropL ps k) := by simp [Hid, dropR, hm, hh]
    have FM : Hid (mapB (dropR ps k) = true) := by
      rw [Hid, HL.out]
      exact dropL_map k hm
    have FS : Hid (getB (dropR ps k) k = false) := by
      rw [Hid, HL.out, getB, drop_has]
      simp
    have FO : Hid (getV ps k = valOf ps k) := by simp [Hid, getV, hm]
    have FP : Hid (putB (dropR ps k) k (getV ps k) = true ∧ putR (dropR ps k) k (getV ps k) = ps) := by
      rw [HL.out, FO.out]
      exact put_back_yes hm hh
    have FV : Hid ((getV ps k).size ≤ maxLen) := by
      have := keyB_small (key_in hm hh).2
      rw [FO.out]
      unfold Hid maxLen
      omega
    have FF : Hid (Fits (dropR ps k)) := by
      rw [HL.out]
      exact fun p hp => HF1.out p (mem_dropL.1 hp).1
    have hps : decide (ps = ps) = true := by simp
    have hpL : ps.length ≤ maxLen := by unfold maxLen; omega
    have hL60 : (dropR ps k).length ≤ 60 := (mapB_iff.1 FM.out).1
    have HPL := hid hpL
    clear hm hh hpL
    go_wp2_with fail
    refine (sameMap_any A2 A3 c2 c3 (dropR ps k) (dropR ps k) _ _ N6.out.rp W6.out.rp HLEN.out).mono ?_
    rintro e w7 ⟨rfl, hw7⟩
    have HB7 := hid (HB6.out.trans (hw7.below _))
    have N7 := hid (N6.out.below (hw7.below _))
    have R7 := hid (R6.out.below (hw7.below _))
    clear hw7
    go_wp2_with fail
    refine (impl_Get A1 c1 ps k _ R7.out.rp HF1.out HPL.out).mono ?_
    rintro e w8 ⟨rfl, hw8⟩
    have HB8 := hid (HB7.out.trans (hw8.mono HB7.out.size))
    have N8 := hid (N7.out.below hw8)
    have R8 := hid (R7.out.below hw8)
    clear hw8
    have hfs := FS.out
    go_wp2_with fail
    refine (impl_Get A2 c2 (dropR ps k) k _ N8.out.rp FF.out HLEN.out).mono ?_
    rintro e w9 ⟨rfl, hw9⟩
    have HB9 := hid (HB8.out.trans (hw9.mono HB8.out.size))
    have N9 := hid (N8.out.below hw9)
    have R9 := hid (R8.out.below hw9)
    clear hw9
    have hput := impl_Put A2 c2 (dropR ps k) k (getV ps k) w9 N9.out.rp N9.out.vs FF.out (by omega) HKZ.out FV.out
    rw [FP.out.1, FP.out.2] at hput
    have HPUT := hid hput
    clear hput
    go_wp2_with fail
    refine HPUT.out.mono ?_
    rintro e w10 ⟨A10, c10, rfl, ho10, hw10⟩
    have HO10 := hid ho10
    have HB10 := hid (HB9.out.trans (hw10.mono HB9.out.size))
    have N10 := hid (N9.out.below hw10)
    have R10 := hid (R9.out.below hw10)
    clear ho10 hw10
    go_wp2_with fail
    refine (impl_Drop A2 c2 (dropR ps k) k _ N10.out.rp N10.out.vs FF.out (by omega)).mono ?_
    rintro e w11 ⟨A11, c11, rfl, ho11, hw11⟩
    have HB11 := hid (HB10.out.trans (hw11.mono HB10.out.size))
    have N11 := hid (N10.out.below hw11)
    have R11 := hid (R10.out.below hw11)
    have O11 := hid (HO10.out.below hw11)
    clear ho11 hw11
    have hfm := FM.out
    go_wp2_with fail
    refine (impl_MapOk A2 c2 (dropR ps k) _ N11.out.rp FF.out HLEN.out).mono ?_
    rintro e w12 ⟨rfl, hw12⟩
    have HB12 := hid (HB11.out.trans (hw12.mono HB11.out.size))
    have R12 := hid (R11.out.below hw12)
    have O12 := hid (O11.out.below hw12)
    clear hw12
    go_wp2_with fail
    refine (sameMap_any A10 A1 c10 c1 ps ps _ _ O12.out.rp R12.out.rp HPL.out).mono ?_
    rintro e w13 ⟨rfl, hw13⟩
    have HB13 := hid (HB12.out.trans (hw13.below _))
    clear hw13
    go_wp2_with fail
    go_ret
    exact ⟨rfl, HB13.out⟩
end Go.Proofs.Ytnoelkghmmjdaaa
