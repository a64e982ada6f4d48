/-
  FnPut: the walk.
-/
import Derived.Test.YtnoelkghmmjdaaaSameMap
import Derived.Test.YtnoelkghmmjdaaaPutFacts
namespace Go.Proofs.Ytnoelkghmmjdaaa
open Go.RowKit

set_option maxHeartbeats 8000000 in
set_option maxRecDepth 200000 in
theorem fnPut_walk (A : Option Addr) (n c : Nat) (w : World) (hc : CB w w.heap.size A n) (hn : n ≤ maxLen) :
    Calls Try.prog 3 #[.slice A n c] w fun e w' => e = .returned (.bool true) ∧ Below w.heap.size w w' := by
  have HC := hid hc
  clear hc
  unfold maxLen at hn
  go_enter Try.func3, Try.ntmps3
  go_wp2_with fail
  refine (big_any A n c _).mono ?_
  rintro e w0 ⟨rfl, rfl⟩
  by_cases hbig : (1048576 : Int) < (n : Int)
  · go_wp2_with fail
    go_ret
    exact ⟨rfl, Below.refl _ _⟩
  go_wp2_with fail
  refine (drawPut_any A n c _ HC.out (by omega)).mono ?_
  rintro e w1 ⟨A1, c1, ps, k, v, rfl, ho1, hs1, hl1, hk1, hv1, hb1⟩
  have HO1 := hid ho1
  have HF1 := hid hs1.fits
  have hkz : k.size ≤ maxLen := by unfold maxLen; omega
  have hvz : v.size ≤ maxLen := by unfold maxLen; omega
  have HKZ := hid hkz
  have HVZ := hid hvz
  clear ho1 hs1 hkz hvz
  go_wp2_with fail
  refine (impl_Put A1 c1 ps k v _ HO1.out.rp HO1.out.vs HF1.out (by omega) HKZ.out HVZ.out).mono ?_
  rintro e w2 ⟨A2, c2, rfl, ho2, hw2⟩
  have hb2 := hb1.trans (hw2.mono hb1.size)
  have HO2 := hid ho2
  have R2 := hid (HO1.out.below hw2)
  clear ho2
  go_wp2_with fail
  refine (spec_Put A1 c1 ps k v _ R2.out.rp HF1.out (by omega) HKZ.out HVZ.out).mono ?_
  rintro e w3 ⟨A3, c3, rfl, ho3, hw3⟩
  have hb3 := hb2.trans (hw3.mono hb2.size)
  have HO3 := hid ho3
  have N3 := hid (HO2.out.below hw3)
  have R3 := hid (R2.out.below hw3)
  clear ho3
  have hlen : (putR ps k v).length ≤ maxLen := by
    unfold putR maxLen
    split
    · have := putL_len_le ps k v
      omega
    · simp
  have HLEN := hid hlen
  have ht : decide (putR ps k v = putR ps k v) = true := by simp
  clear hlen
  cases hp : putB ps k v
  · go_wp2_with fail
    refine (sameMap_any A2 A3 c2 c3 (putR ps k v) (putR ps k v) _ _ N3.out.rp HO3.out.rp HLEN.out).mono ?_
    rintro e w4 ⟨rfl, hw4⟩
    have hb4 := hb3.trans (hw4.below _)
    have N4 := hid (N3.out.rp.below (hw4.below _))
    have W4 := hid (HO3.out.rp.below (hw4.below _))
    go_wp2_with fail
    refine (sameMap_any A2 A3 c2 c3 (putR ps k v) (putR ps k v) _ _ N4.out W4.out HLEN.out).mono ?_
    rintro e w5 ⟨rfl, hw5⟩
    have hb5 := hb4.trans (hw5.below _)
    go_wp2_with fail
    go_ret
    exact ⟨rfl, hb5⟩
  · have HL := hid (putR_yes hp)
    have hpp := hp
    simp only [putB, Bool.and_eq_true, decide_eq_true_eq] at hpp
    obtain ⟨hm1, hk2, hv2, hl60⟩ := hpp
    have hmL : mapB (putL ps k v) = true := by
      rw [putL_map hm1 hk2 hv2]
      simpa using hl60
    have FM : Hid (mapB (putR ps k v) = true) := by rw [Hid, HL.out]; exact hmL
    have FG : Hid (∀ p ∈ ps, getB (putR ps k v) p.1 = true ∧ (p.1 ≠ k → getV (putR ps k v) p.1 = p.2)) := by
      rw [HL.out]
      exact fun p hp => put_get hmL hp
    have FK : Hid (getB (putR ps k v) k = true ∧ getV (putR ps k v) k = v) := by
      rw [HL.out]
      exact get_mem hmL (put_mem ps k v)
    have FA : Hid (putB (putR ps k v) k v = true ∧ putR (putR ps k v) k v = putR ps k v) := by
      rw [HL.out]
      have h1 : putB (putL ps k v) k v = true := putB_yes hmL hk2 hv2 (by rw [put_again hmL]; exact hl60)
      exact ⟨h1, (putR_yes h1).trans (put_again hmL)⟩
    have FL : Hid ((putR ps k v).length = if hasK ps k then ps.length else ps.length + 1) := by
      rw [HL.out]
      exact put_len (mapB_iff.1 hm1).2.2 k v
    have FO : Hid (getB ps k = hasK ps k) := by simp [Hid, getB, hm1]
    have FF : Hid (Fits (putR ps k v)) := by
      rw [HL.out]
      exact HF1.out.put HKZ.out HVZ.out
    have hL60 : (putR ps k v).length ≤ 60 := by rw [HL.out]; exact hl60
    have hpL : ps.length ≤ maxLen := by unfold maxLen; omega
    have HPL := hid hpL
    clear hm1 hk2 hv2 hl60 hmL hpL
    go_wp2_with fail
    refine (sameMap_any A2 A3 c2 c3 (putR ps k v) (putR ps k v) _ _ N3.out.rp HO3.out.rp HLEN.out).mono ?_
    rintro e w4 ⟨rfl, hw4⟩
    have hb4 := hb3.trans (hw4.below _)
    have N4 := hid (N3.out.below (hw4.below _))
    have R4 := hid (R3.out.below (hw4.below _))
    have HB4 := hid hb4
    clear hw4 hb4 hb3 hb2 hb1
    go_wp2_with fail
    go_loopw [10] (fun i wr => ∃ j : Nat, j ≤ ps.length ∧ i = .int .i64 j ∧ Below w4.heap.size w4 wr) (fun i _ => ps.length - (intOf i).toNat)
    case atStart => exact ⟨0, Nat.zero_le _, rfl, Below.refl _ _⟩
    case round =>
      obtain ⟨j, hj, rfl, hbw⟩ := hrel
      have HD := hid hbw
      clear hbw
      by_cases hlt : j < ps.length
      · obtain ⟨b, off, rfl, hb, hc1, hc2⟩ := (R4.out.rp.below HD.out).at_ hlt
        have hgb := (FG.out ps[j] (List.getElem_mem hlt)).1
        have HGV := hid (FG.out ps[j] (List.getElem_mem hlt)).2
        have NR := hid (N4.out.below HD.out)
        have HX1 := hid hc1
        have HX2 := hid hc2
        go_wp2_with fail
        refine (impl_Get A2 c2 (putR ps k v) ps[j].1 _ NR.out.rp FF.out HLEN.out).mono ?_
        rintro e w5 ⟨rfl, hw5⟩
        have hd1 := (hw5.cell (p := ⟨b, off + j * 2, none⟩) (by have := HD.out.size; show b < _; omega)).trans HX1.out
        have hd2 := (hw5.cell (p := ⟨b, off + j * 2 + 1, none⟩) (by have := HD.out.size; show b < _; omega)).trans HX2.out
        have HW5 := hid hw5
        clear hc1 hc2 hw5
        by_cases he : ps[j].1 = k
        · have g1 := eqS_true he
          clear he
          go_wp2_with fail
          refine ⟨⟨j + 1, by omega, by go_num, HD.out.trans (HW5.out.mono HD.out.size)⟩, by simp [intOf]; omega⟩
        · have g1 := eqS_false he
          have g2 := HGV.out he
          have g3 : (ps[j].2.toList == ps[j].2.toList) = true := by simp
          clear he
          go_wp2_with fail
          refine ⟨⟨j + 1, by omega, by go_num, HD.out.trans (HW5.out.mono HD.out.size)⟩, by simp [intOf]; omega⟩
      · obtain rfl : j = ps.length := by omega
        have NR := hid (N4.out.below HD.out)
        have RR := hid (R4.out.below HD.out)
        have HBr := hid (HB4.out.trans (HD.out.mono HB4.out.size))
        have hgk := FK.out.1
        have hvk := FK.out.2
        have ho := FO.out
        have hfl := FL.out
        have hvv : (v.toList == v.toList) = true := by simp
        cases hh : hasK ps k
        all_goals
          rw [hh] at ho hfl
          have HFL := hid hfl
          clear hfl hh
          go_wp2_with fail
          refine (impl_Get A2 c2 (putR ps k v) k _ NR.out.rp FF.out HLEN.out).mono ?_
          rintro e w6 ⟨rfl, hw6⟩
          have N6 := hid (NR.out.below hw6)
          have R6 := hid (RR.out.below hw6)
          have HB6 := hid (HBr.out.trans (hw6.mono HBr.out.size))
          clear hw6
          have hput := impl_Put A2 c2 (putR ps k v) k v w6 N6.out.rp N6.out.vs FF.out (by omega) HKZ.out HVZ.out
          rw [FA.out.1, FA.out.2] at hput
          have HPUT := hid hput
          clear hput
          go_wp2_with fail
          refine HPUT.out.mono ?_
          rintro e w7 ⟨A7, c7, rfl, ho7, hw7⟩
          have HO7 := hid ho7
          have N7 := hid (N6.out.below hw7)
          have R7 := hid (R6.out.below hw7)
          have HB7 := hid (HB6.out.trans (hw7.mono HB6.out.size))
          clear ho7 hw7
          go_wp2_with fail
          refine (impl_Get A1 c1 ps k _ R7.out.rp HF1.out HPL.out).mono ?_
          rintro e w8 ⟨rfl, hw8⟩
          have N8 := hid (N7.out.below hw8)
          have O8 := hid (HO7.out.below hw8)
          have HB8 := hid (HB7.out.trans (hw8.mono HB7.out.size))
          clear hw8
          have hfm := FM.out
          go_wp2_with fail
          refine (impl_MapOk A2 c2 (putR ps k v) _ N8.out.rp FF.out HLEN.out).mono ?_
          rintro e w9 ⟨rfl, hw9⟩
          have N9 := hid (N8.out.below hw9)
          have O9 := hid (O8.out.below hw9)
          have HB9 := hid (HB8.out.trans (hw9.mono HB8.out.size))
          clear hw9
          go_wp2_with fail
          refine (sameMap_any A7 A2 c7 c2 (putR ps k v) (putR ps k v) _ _ O9.out.rp N9.out.rp HLEN.out).mono ?_
          rintro e w10 ⟨rfl, hw10⟩
          have HB10 := hid (HB9.out.trans (hw10.below _))
          clear hw10
          have hz := HFL.out
          simp only [Bool.false_eq_true, if_false, if_true] at hz
          first
            | (have hq : (((putR ps k v).length : Int) == (ps.length : Int)) = true := by rw [hz]; simp)
            | (have hq : (((putR ps k v).length : Int) == (ps.length : Int) + 1) = true := by rw [hz]; simp)
          have HQ := hid hz
          clear hz
          go_wp2_with fail
          go_ret
          exact ⟨rfl, HB10.out⟩
end Go.Proofs.Ytnoelkghmmjdaaa
