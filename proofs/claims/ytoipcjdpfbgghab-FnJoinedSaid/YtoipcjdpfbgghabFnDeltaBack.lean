/-
  FnDeltaBack: the walk.
-/
import Derived.Test.YtoipcjdpfbgghabSameMap
import Derived.Test.YtoipcjdpfbgghabDrawD
import Derived.Test.YtoipcjdpfbgghabDeltaG
import Derived.Test.YtoipcjdpfbgghabDeltaK
namespace Go.Proofs.Ytoipcjdpfbgghab
open Go.RowKit

theorem deltaOf_facts {a b : PS} (h : deltaOfB a b = true) : mapB a = true ∧ mapB b = true ∧ deltaOfL a b = deltaL a b ∧ (deltaL a b).length ≤ 60 ∧ FitsC (deltaOfL a b) ∧ deltaB (deltaOfL a b) = true ∧ changedB a (deltaOfL a b) = true ∧ changedL a (deltaOfL a b) = b := by
  have e := deltaOfL_y h
  simp only [deltaOfB, Bool.and_eq_true, decide_eq_true_eq] at h
  obtain ⟨h1, h2, h3⟩ := h
  have g := deltaL_ok h1 h2
  have g : deltaB (deltaL a b) = true := by rw [g]; simpa using h3
  have ap := apply_delta (mapB_iff.1 h1).2.2 (mapB_iff.1 h2).2.2
  have hc : changedB a (deltaL a b) = true := changedB_y h1 g (by rw [ap]; exact (mapB_iff.1 h2).1)
  rw [e]
  exact ⟨h1, h2, rfl, h3, fits_delta h1 h2, g, hc, by rw [changedL_y hc, ap]⟩
theorem deltaOf_turn {a b : PS} (h : deltaOfB a b = true) : deltaOfB b a = true ∧ (deltaOfL b a).length = (deltaOfL a b).length := by
  obtain ⟨h1, h2, h3, h4, _⟩ := deltaOf_facts h
  have e := delta_same_len (mapB_iff.1 h1).2.2 (mapB_iff.1 h2).2.2
  have g := deltaOfB_y h2 h1 (by rw [e]; exact h4)
  exact ⟨g, by rw [deltaOfL_y g, h3, e]⟩

set_option maxHeartbeats 8000000 in
set_option maxRecDepth 200000 in
theorem fnDeltaBack_walk (A : Option Addr) (n c : Nat) (w : World) (hc : CB w w.heap.size A n) (hn : n ≤ maxLen) :
    Calls Try.prog 6 #[.slice A n c] w fun e w' => e = .returned (.bool true) ∧ Below w.heap.size w w' := by
  have HC := hid hc
  clear hc
  unfold maxLen at hn
  go_enter Try.func6, Try.ntmps6
  go_wp2_with fail
  refine (big_any A n c _).mono ?_
  rintro e w0 ⟨rfl, rfl⟩
  by_cases hbig : (1048576 : Int) < (n : Int)
  · go_wp2_with fail
    go_ret
    exact ⟨rfl, Below.refl _ _⟩
  go_wp2_with fail
  refine (drawDeltaOf_any A n c _ HC.out (by omega)).mono ?_
  rintro e w1 ⟨A1, c1, ps, K1, d1, qs, rfl, hr1, hk1, hv1, hu1, hs1, ht1, hl1, hm1, hb1⟩
  have RA := hid hr1
  have RK := hid hk1
  have VA := hid hv1
  have FA := hid hs1.fits
  have FK := hid ht1.fits
  have VK := hid hu1
  have hpl : ps.length ≤ maxLen := by unfold maxLen; omega
  have hql : qs.length ≤ maxLen := by unfold maxLen; omega
  have HPL := hid hpl
  have HQL := hid hql
  have HB1 := hid hb1
  clear hr1 hk1 hv1 hu1 hs1 ht1 hpl hql hb1
  go_wp2_with fail
  refine (impl_DeltaOf A1 c1 ps K1 d1 qs _ RA.out FA.out HPL.out RK.out FK.out HQL.out).mono ?_
  rintro e w2 ⟨A2, c2, rfl, ho2, hw2⟩
  have HO2 := hid ho2
  have D2 := hid hw2
  clear ho2 hw2
  go_wp2_with fail
  refine (spec_DeltaOf A1 c1 ps K1 d1 qs _ ((RA.out.below D2.out).more D2.out.size) FA.out HPL.out ((RK.out.below D2.out).more D2.out.size) FK.out HQL.out).mono ?_
  rintro e w3 ⟨A3, c3, rfl, ho3, hw3⟩
  have O3 := hid (HO2.out.below hw3)
  have D3 := hid (D2.out.trans (hw3.mono D2.out.size))
  clear ho3 hw3
  cases hd : deltaOfB ps qs
  · go_wp2_with fail
    go_ret
    exact ⟨rfl, HB1.out.trans (D3.out.mono HB1.out.size)⟩
  have FACT := hid (deltaOf_facts hd)
  obtain ⟨hd2, hlen⟩ := deltaOf_turn hd
  have FACT2 := hid (deltaOf_facts hd2)
  have HLEN : Hid ((((deltaOfL qs ps).length : Int) == ((deltaOfL ps qs).length : Int)) = true) := by rw [Hid, hlen]; simp
  have l1 : (deltaOfL ps qs).length ≤ 60 := by rw [FACT.out.2.2.1]; exact FACT.out.2.2.2.1
  clear hlen
  go_wp2_with fail
  refine (impl_DeltaOf K1 d1 qs A1 c1 ps _ ((RK.out.below D3.out).more D3.out.size) FK.out HQL.out ((RA.out.below D3.out).more D3.out.size) FA.out HPL.out).mono ?_
  rintro e w4 ⟨A4, c4, rfl, ho4, hw4⟩
  have HO4 := hid ho4
  have O4 := hid (O3.out.below hw4)
  have D4 := hid (D3.out.trans (hw4.mono D3.out.size))
  clear ho4 hw4
  have h5 := impl_Changed A1 c1 ps A2 c2 (deltaOfL ps qs) w4 ((RA.out.below D4.out).more D4.out.size) VA.out FA.out HPL.out O4.out.rh FACT.out.2.2.2.2.1 (by unfold maxLen; omega)
  rw [FACT.out.2.2.2.2.2.2.1, FACT.out.2.2.2.2.2.2.2] at h5
  have H5 := hid h5
  clear h5
  go_wp2_with fail
  refine H5.out.mono ?_
  rintro e w5 ⟨A5, c5, rfl, ho5, hw5⟩
  have HO5 := hid ho5
  have P5 := hid (HO4.out.below hw5)
  have D5 := hid (D4.out.trans (hw5.mono D4.out.size))
  clear ho5 hw5
  have l2 : (deltaOfL qs ps).length ≤ maxLen := by rw [FACT2.out.2.2.1]; have := FACT2.out.2.2.2.1; unfold maxLen; omega
  have h6 := impl_Changed A5 c5 qs A4 c4 (deltaOfL qs ps) w5 HO5.out.rp HO5.out.vs FK.out HQL.out P5.out.rh FACT2.out.2.2.2.2.1 l2
  rw [FACT2.out.2.2.2.2.2.2.1, FACT2.out.2.2.2.2.2.2.2] at h6
  have H6 := hid h6
  clear h6 l2
  go_wp2_with fail
  refine H6.out.mono ?_
  rintro e w6 ⟨A6, c6, rfl, ho6, hw6⟩
  have HO6 := hid ho6
  have D6 := hid (D5.out.trans (hw6.mono D5.out.size))
  clear ho6 hw6
  have hq := HLEN.out
  go_wp2_with fail
  refine (sameMap_any A6 A1 c6 c1 ps ps _ _ HO6.out.rp ((RA.out.below D6.out).more D6.out.size) HPL.out).mono ?_
  rintro e w7 ⟨rfl, hw7⟩
  have D7 := hid (D6.out.trans (hw7.below _))
  have ht : decide (ps = ps) = true := by simp
  go_wp2_with fail
  go_ret
  exact ⟨rfl, HB1.out.trans (D7.out.mono HB1.out.size)⟩
end Go.Proofs.Ytoipcjdpfbgghab
