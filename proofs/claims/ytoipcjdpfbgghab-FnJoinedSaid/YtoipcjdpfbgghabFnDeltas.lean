/-
  FnDeltas: the walk.
-/
import Derived.Test.YtoipcjdpfbgghabFnDeltaBack
import Derived.Test.YtoipcjdpfbgghabDrawE
import Derived.Test.YtoipcjdpfbgghabDeltaOk
namespace Go.Proofs.Ytoipcjdpfbgghab
open Go.RowKit

theorem cb_later {w w' : World} {A : Option Addr} {n : Nat} (h : CB w w.heap.size A n) (hb : Below w.heap.size w w') : CB w' w'.heap.size A n := by
  rcases h.grown (grown_of_below (r := none) hb) (Nat.le_refl _) (by simp) with h | ⟨b, off, e, hb', hx⟩
  · exact .inl h
  · exact .inr ⟨b, off, e, Nat.lt_of_lt_of_le hb' hb.size, hx⟩
theorem deltaOf_none {a : PS} (h : mapB a = true) : deltaOfB a a = true ∧ deltaOfL a a = [] := by
  have e := delta_none (mapB_iff.1 h).2.2
  have g := deltaOfB_y h h (by rw [e]; simp)
  exact ⟨g, by rw [deltaOfL_y g, e]⟩

set_option maxHeartbeats 8000000 in
set_option maxRecDepth 200000 in
theorem fnDeltas_walk (A : Option Addr) (n c : Nat) (w : World) (hc : CB w w.heap.size A n) (hn : n ≤ maxLen) :
    Calls Try.prog 3 #[.slice A n c] w fun e w' => e = .returned (.bool true) ∧ Below w.heap.size w w' := by
  have HC := hid hc
  clear hc
  unfold maxLen at hn
  go_enter Try.func3, Try.ntmps3
  go_wp2_with fail
  refine (big_any A n c _).mono ?_
  rintro e w0 ⟨rfl, rfl⟩
  by_cases hbig : (1048576 : Int) < (n : Int)
  · go_wp2_with fail
    go_ret
    exact ⟨rfl, Below.refl _ _⟩
  go_wp2_with fail
  refine (drawDeltaOf_any A n c _ HC.out (by omega)).mono ?_
  rintro e w1 ⟨A1, c1, ps, K1, d1, qs, rfl, hr1, hk1, hv1, hu1, hs1, ht1, hl1, hm1, hb1⟩
  have RA := hid hr1
  have RK := hid hk1
  have VA := hid hv1
  have FA := hid hs1.fits
  have FK := hid ht1.fits
  have VK := hid hu1
  have hpl : ps.length ≤ maxLen := by unfold maxLen; omega
  have hql : qs.length ≤ maxLen := by unfold maxLen; omega
  have HPL := hid hpl
  have HQL := hid hql
  have HB1 := hid hb1
  clear hr1 hk1 hv1 hu1 hs1 ht1 hpl hql hb1
  go_wp2_with fail
  refine (impl_DeltaOf A1 c1 ps K1 d1 qs _ RA.out FA.out HPL.out RK.out FK.out HQL.out).mono ?_
  rintro e w2 ⟨A2, c2, rfl, ho2, hw2⟩
  have HO2 := hid ho2
  have D2 := hid hw2
  clear ho2 hw2
  go_wp2_with fail
  refine (spec_DeltaOf A1 c1 ps K1 d1 qs _ ((RA.out.below D2.out).more D2.out.size) FA.out HPL.out ((RK.out.below D2.out).more D2.out.size) FK.out HQL.out).mono ?_
  rintro e w3 ⟨A3, c3, rfl, ho3, hw3⟩
  have O3 := hid (HO2.out.below hw3)
  have D3 := hid (D2.out.trans (hw3.mono D2.out.size))
  have HO3 := hid ho3
  clear ho3 hw3
  go_wp2_with fail
  refine (drawDeltaOk_any A n c _ (cb_later HC.out (HB1.out.trans (D3.out.mono HB1.out.size))) (by omega)).mono ?_
  rintro e w4 ⟨A4, c4, ls, rfl, hr4, hf4, hl4, hw4⟩
  have RX4 := hid hr4
  have FX := hid hf4
  have O4 := hid (O3.out.below hw4)
  have W4 := hid (HO3.out.below hw4)
  have D4 := hid (D3.out.trans (hw4.mono D3.out.size))
  have lx : ls.length ≤ maxLen := by unfold maxLen; omega
  have LX := hid lx
  clear hr4 hf4 hw4 lx
  have hxn : (deltaB ls != deltaB ls) = false := by simp
  have hxe : (deltaB ls == deltaB ls) = true := by simp
  have ht : decide (deltaOfL ps qs = deltaOfL ps qs) = true := by simp
  cases hd : deltaOfB ps qs
  · have l0 : (deltaOfL ps qs).length ≤ maxLen := by rw [deltaOfL_n hd]; simp
    have L0 := hid l0
    clear l0
    go_wp2_with fail
    refine (sameWrites_any A2 A3 c2 c3 (deltaOfL ps qs) (deltaOfL ps qs) _ _ O4.out.rh W4.out.rh L0.out).mono ?_
    rintro e w5 ⟨rfl, hw5⟩
    have O5 := hid (O4.out.below (hw5.below _))
    have W5 := hid (W4.out.below (hw5.below _))
    have X5 := hid ((RX4.out.below (hw5.below _)).more (hw5.below w4.heap.size).size)
    have D5 := hid (D4.out.trans ((hw5.below _).mono D4.out.size))
    clear hw5
    go_wp2_with fail
    refine (impl_DeltaOk A4 c4 ls _ X5.out FX.out LX.out).mono ?_
    rintro e w6 ⟨rfl, hw6⟩
    have O6 := hid (O5.out.below hw6)
    have W6 := hid (W5.out.below hw6)
    have X6 := hid ((X5.out.below hw6).more hw6.size)
    have D6 := hid (D5.out.trans (hw6.mono D5.out.size))
    clear hw6
    go_wp2_with fail
    refine (spec_DeltaOk A4 c4 ls _ X6.out FX.out LX.out).mono ?_
    rintro e w7 ⟨rfl, hw7⟩
    have O7 := hid (O6.out.below hw7)
    have W7 := hid (W6.out.below hw7)
    have X7 := hid ((X6.out.below hw7).more hw7.size)
    have D7 := hid (D6.out.trans (hw7.mono D6.out.size))
    clear hw7
    go_wp2_with fail
    refine (sameWrites_any A2 A3 c2 c3 (deltaOfL ps qs) (deltaOfL ps qs) _ _ O7.out.rh W7.out.rh L0.out).mono ?_
    rintro e w8 ⟨rfl, hw8⟩
    have X8 := hid ((X7.out.below (hw8.below _)).more (hw8.below w7.heap.size).size)
    have D8 := hid (D7.out.trans ((hw8.below _).mono D7.out.size))
    clear hw8
    go_wp2_with fail
    refine (impl_DeltaOk A4 c4 ls _ X8.out FX.out LX.out).mono ?_
    rintro e w9 ⟨rfl, hw9⟩
    have X9 := hid ((X8.out.below hw9).more hw9.size)
    have D9 := hid (D8.out.trans (hw9.mono D8.out.size))
    clear hw9
    go_wp2_with fail
    refine (spec_DeltaOk A4 c4 ls _ X9.out FX.out LX.out).mono ?_
    rintro e w10 ⟨rfl, hw10⟩
    have D10 := hid (D9.out.trans (hw10.mono D9.out.size))
    clear hw10
    go_wp2_with fail
    go_ret
    exact ⟨rfl, HB1.out.trans (D10.out.mono HB1.out.size)⟩
  have FACT := hid (deltaOf_facts hd)
  have l1 : (deltaOfL ps qs).length ≤ maxLen := by rw [FACT.out.2.2.1]; have := FACT.out.2.2.2.1; unfold maxLen; omega
  have L1 := hid l1
  obtain ⟨hn1, hn2⟩ := deltaOf_none FACT.out.1
  have NB := hid hn1
  have NL := hid hn2
  clear l1 hn1 hn2
  go_wp2_with fail
  refine (sameWrites_any A2 A3 c2 c3 (deltaOfL ps qs) (deltaOfL ps qs) _ _ O4.out.rh W4.out.rh L1.out).mono ?_
  rintro e w5 ⟨rfl, hw5⟩
  have O5 := hid (O4.out.below (hw5.below _))
  have X5 := hid ((RX4.out.below (hw5.below _)).more (hw5.below w4.heap.size).size)
  have D5 := hid (D4.out.trans ((hw5.below _).mono D4.out.size))
  clear hw5
  go_wp2_with fail
  refine (impl_DeltaOk A4 c4 ls _ X5.out FX.out LX.out).mono ?_
  rintro e w6 ⟨rfl, hw6⟩
  have O6 := hid (O5.out.below hw6)
  have X6 := hid ((X5.out.below hw6).more hw6.size)
  have D6 := hid (D5.out.trans (hw6.mono D5.out.size))
  clear hw6
  go_wp2_with fail
  refine (spec_DeltaOk A4 c4 ls _ X6.out FX.out LX.out).mono ?_
  rintro e w7 ⟨rfl, hw7⟩
  have O7 := hid (O6.out.below hw7)
  have D7 := hid (D6.out.trans (hw7.mono D6.out.size))
  clear hw7
  have h8 := impl_Changed A1 c1 ps A2 c2 (deltaOfL ps qs) w7 ((RA.out.below D7.out).more D7.out.size) VA.out FA.out HPL.out O7.out.rh FACT.out.2.2.2.2.1 L1.out
  rw [FACT.out.2.2.2.2.2.2.1, FACT.out.2.2.2.2.2.2.2] at h8
  have H8 := hid h8
  clear h8
  go_wp2_with fail
  refine H8.out.mono ?_
  rintro e w8 ⟨A8, c8, rfl, ho8, hw8⟩
  have HO8 := hid ho8
  have O8 := hid (O7.out.below hw8)
  have D8 := hid (D7.out.trans (hw8.mono D7.out.size))
  clear ho8 hw8
  have h9 := impl_DeltaOf A1 c1 ps A1 c1 ps w8 ((RA.out.below D8.out).more D8.out.size) FA.out HPL.out ((RA.out.below D8.out).more D8.out.size) FA.out HPL.out
  rw [NB.out, NL.out] at h9
  have H9 := hid h9
  clear h9
  go_wp2_with fail
  refine H9.out.mono ?_
  rintro e w9 ⟨A9, c9, rfl, ho9, hw9⟩
  have P9 := hid (HO8.out.below hw9)
  have O9 := hid (O8.out.below hw9)
  have D9 := hid (D8.out.trans (hw9.mono D8.out.size))
  clear ho9 hw9
  have h10 := impl_DeltaOk A2 c2 (deltaOfL ps qs) w9 O9.out.rh FACT.out.2.2.2.2.1 L1.out
  rw [FACT.out.2.2.2.2.2.1] at h10
  have H10 := hid h10
  clear h10
  go_wp2_with fail
  refine H10.out.mono ?_
  rintro e w10 ⟨rfl, hw10⟩
  have P10 := hid (P9.out.below hw10)
  have D10 := hid (D9.out.trans (hw10.mono D9.out.size))
  clear hw10
  have hqq : decide (qs = qs) = true := by simp
  go_wp2_with fail
  refine (sameMap_any A8 K1 c8 d1 qs qs _ _ P10.out.rp ((RK.out.below D10.out).more D10.out.size) HQL.out).mono ?_
  rintro e w11 ⟨rfl, hw11⟩
  have D11 := hid (D10.out.trans ((hw11.below _).mono D10.out.size))
  clear hw11
  go_wp2_with fail
  go_ret
  exact ⟨rfl, HB1.out.trans (D11.out.mono HB1.out.size)⟩
end Go.Proofs.Ytoipcjdpfbgghab
