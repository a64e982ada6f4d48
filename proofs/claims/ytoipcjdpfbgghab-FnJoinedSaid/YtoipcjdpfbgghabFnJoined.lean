/-
  FnJoined: the walk.
-/
import Derived.Test.YtoipcjdpfbgghabFnDeltas
namespace Go.Proofs.Ytoipcjdpfbgghab
open Go.RowKit

theorem joined_facts {a b : CS} (h : joinedB a b = true) : FitsC (joinedL a b) ∧ deltaB (joinedL a b) = true ∧ (joinedL a b).length ≤ 60 ∧
    ∀ m, changedB m a = true → changedB (changedL m a) b = true → changedB m (joinedL a b) = true ∧ changedL m (joinedL a b) = changedL (changedL m a) b := by
  have e := joinedL_y h
  simp only [joinedB, Bool.and_eq_true, decide_eq_true_eq] at h
  obtain ⟨h1, h2, h3⟩ := h
  have g : deltaB (ovl a b) = true := by rw [ovl_right h1 h2]; simpa using h3
  rw [e]
  refine ⟨fits_ovl h1 h2, g, h3, fun m k1 k2 => ?_⟩
  have y1 := changedL_y k1
  have y2 := changedL_y k2
  rw [y1] at k2 y2
  simp only [changedB, Bool.and_eq_true, decide_eq_true_eq] at k1 k2
  have ap := apply_ovl (m := m) (mapB_iff.1 k1.1).2.2 (deltaB_iff.1 h1).2.2 (deltaB_iff.1 h2).2.2
  have hc : changedB m (ovl a b) = true := changedB_y k1.1 g (by rw [← ap]; exact k2.2.2)
  refine ⟨hc, ?_⟩
  rw [changedL_y hc, y1, y2, ap]

set_option maxHeartbeats 8000000 in
set_option maxRecDepth 200000 in
theorem fnJoined_walk (A : Option Addr) (n c : Nat) (w : World) (hc : CB w w.heap.size A n) (hn : n ≤ maxLen) :
    Calls Try.prog 4 #[.slice A n c] w fun e w' => e = .returned (.bool true) ∧ Below w.heap.size w w' := by
  have HC := hid hc
  clear hc
  unfold maxLen at hn
  go_enter Try.func4, Try.ntmps4
  go_wp2_with fail
  refine (big_any A n c _).mono ?_
  rintro e w0 ⟨rfl, rfl⟩
  by_cases hbig : (1048576 : Int) < (n : Int)
  · go_wp2_with fail
    go_ret
    exact ⟨rfl, Below.refl _ _⟩
  go_wp2_with fail
  refine (drawJoined_any A n c _ HC.out (by omega)).mono ?_
  rintro e w1 ⟨A1, c1, ks, K1, d1, ls, rfl, hr1, hv1, hf1, hl1, hk1, hu1, hg1, hm1, hb1⟩
  have RA := hid hr1
  have RK := hid hk1
  have VA := hid hv1
  have FA := hid hf1
  have FK := hid hg1
  have VK := hid hu1
  have hpl : ks.length ≤ maxLen := by unfold maxLen; omega
  have hql : ls.length ≤ maxLen := by unfold maxLen; omega
  have HPL := hid hpl
  have HQL := hid hql
  have HB1 := hid hb1
  clear hr1 hk1 hv1 hu1 hf1 hg1 hpl hql hb1
  go_wp2_with fail
  refine (impl_Joined A1 c1 ks K1 d1 ls _ RA.out VA.out FA.out HPL.out RK.out VK.out FK.out HQL.out).mono ?_
  rintro e w2 ⟨A2, c2, rfl, ho2, hw2⟩
  have HO2 := hid ho2
  have D2 := hid hw2
  clear ho2 hw2
  go_wp2_with fail
  refine (spec_Joined A1 c1 ks K1 d1 ls _ ((RA.out.below D2.out).more D2.out.size) FA.out HPL.out ((RK.out.below D2.out).more D2.out.size) FK.out HQL.out).mono ?_
  rintro e w3 ⟨A3, c3, rfl, ho3, hw3⟩
  have O3 := hid (HO2.out.below hw3)
  have D3 := hid (D2.out.trans (hw3.mono D2.out.size))
  have HO3 := hid ho3
  clear ho3 hw3
  go_wp2_with fail
  refine (drawChanged_any A n c _ (cb_later HC.out (HB1.out.trans (D3.out.mono HB1.out.size))) (by omega)).mono ?_
  rintro e w4 ⟨A4, c4, ms, K4, d4, ls4, rfl, hr4, hv4, hs4, hl4, _, _, _, _, hw4⟩
  have RM := hid hr4
  have VM := hid hv4
  have FM := hid hs4.fits
  have O4 := hid (O3.out.below hw4)
  have W4 := hid (HO3.out.below hw4)
  have D4 := hid (D3.out.trans (hw4.mono D3.out.size))
  have lx : ms.length ≤ maxLen := by unfold maxLen; omega
  have LX := hid lx
  clear hr4 hv4 hs4 hw4 lx
  have ht : decide (joinedL ks ls = joinedL ks ls) = true := by simp
  cases hd : joinedB ks ls
  · have l0 : (joinedL ks ls).length ≤ maxLen := by rw [joinedL_n hd]; simp
    have L0 := hid l0
    clear l0
    go_wp2_with fail
    refine (sameWrites_any A2 A3 c2 c3 (joinedL ks ls) (joinedL ks ls) _ _ O4.out.rh W4.out.rh L0.out).mono ?_
    rintro e w5 ⟨rfl, hw5⟩
    have O5 := hid (O4.out.below (hw5.below _))
    have W5 := hid (W4.out.below (hw5.below _))
    have D5 := hid (D4.out.trans ((hw5.below _).mono D4.out.size))
    clear hw5
    go_wp2_with fail
    refine (sameWrites_any A2 A3 c2 c3 (joinedL ks ls) (joinedL ks ls) _ _ O5.out.rh W5.out.rh L0.out).mono ?_
    rintro e w8 ⟨rfl, hw8⟩
    have D8 := hid (D5.out.trans ((hw8.below _).mono D5.out.size))
    clear hw8
    go_wp2_with fail
    go_ret
    exact ⟨rfl, HB1.out.trans (D8.out.mono HB1.out.size)⟩
  have FACT := hid (joined_facts hd)
  have l1 : (joinedL ks ls).length ≤ maxLen := by have := FACT.out.2.2.1; unfold maxLen; omega
  have L1 := hid l1
  have HSX := hid (small_changed (m := ms) (l := ks))
  have HSY := hid (small_changed (m := changedL ms ks) (l := ls))
  have lxx : (changedL ms ks).length ≤ maxLen := by have := HSX.out.2; unfold maxLen; omega
  have lyy : (changedL (changedL ms ks) ls).length ≤ maxLen := by have := HSY.out.2; unfold maxLen; omega
  have LXX := hid lxx
  have LYY := hid lyy
  clear l1 lxx lyy
  go_wp2_with fail
  refine (sameWrites_any A2 A3 c2 c3 (joinedL ks ls) (joinedL ks ls) _ _ O4.out.rh W4.out.rh L1.out).mono ?_
  rintro e w5 ⟨rfl, hw5⟩
  have O5 := hid (O4.out.below (hw5.below _))
  have M5 := hid ((RM.out.below (hw5.below _)).more (hw5.below w4.heap.size).size)
  have D5 := hid (D4.out.trans ((hw5.below _).mono D4.out.size))
  clear hw5
  have h6 := impl_Changed A4 c4 ms A1 c1 ks w5 M5.out VM.out FM.out LX.out ((RA.out.below D5.out).more D5.out.size) FA.out HPL.out
  have H6 := hid h6
  clear h6
  go_wp2_with fail
  refine H6.out.mono ?_
  rintro e w6 ⟨A6, c6, rfl, ho6, hw6⟩
  have X6 := hid ho6
  have O6 := hid (O5.out.below hw6)
  have M6 := hid ((M5.out.below hw6).more hw6.size)
  have D6 := hid (D5.out.trans (hw6.mono D5.out.size))
  clear ho6 hw6
  have h7 := impl_Changed A6 c6 (changedL ms ks) K1 d1 ls w6 X6.out.rp X6.out.vs HSX.out.1.fits LXX.out ((RK.out.below D6.out).more D6.out.size) FK.out HQL.out
  have H7 := hid h7
  clear h7
  go_wp2_with fail
  refine H7.out.mono ?_
  rintro e w7 ⟨A7, c7, rfl, ho7, hw7⟩
  have Y7 := hid ho7
  have O7 := hid (O6.out.below hw7)
  have M7 := hid ((M6.out.below hw7).more hw7.size)
  have D7 := hid (D6.out.trans (hw7.mono D6.out.size))
  clear ho7 hw7
  have h8 := impl_Changed A4 c4 ms A2 c2 (joinedL ks ls) w7 M7.out VM.out FM.out LX.out O7.out.rh FACT.out.1 L1.out
  have H8 := hid h8
  clear h8
  go_wp2_with fail
  refine H8.out.mono ?_
  rintro e w8 ⟨A8, c8, rfl, ho8, hw8⟩
  have Z8 := hid ho8
  have Y8 := hid (Y7.out.below hw8)
  have O8 := hid (O7.out.below hw8)
  have D8 := hid (D7.out.trans (hw8.mono D7.out.size))
  clear ho8 hw8
  have h9 := impl_DeltaOk A2 c2 (joinedL ks ls) w8 O8.out.rh FACT.out.1 L1.out
  rw [FACT.out.2.1] at h9
  have H9 := hid h9
  clear h9
  cases k1 : changedB ms ks
  · go_wp2_with fail
    refine H9.out.mono ?_
    rintro e w9 ⟨rfl, hw9⟩
    have D9 := hid (D8.out.trans (hw9.mono D8.out.size))
    clear hw9
    go_wp2_with fail
    go_ret
    exact ⟨rfl, HB1.out.trans (D9.out.mono HB1.out.size)⟩
  cases k2 : changedB (changedL ms ks) ls
  · go_wp2_with fail
    refine H9.out.mono ?_
    rintro e w9 ⟨rfl, hw9⟩
    have D9 := hid (D8.out.trans (hw9.mono D8.out.size))
    clear hw9
    go_wp2_with fail
    go_ret
    exact ⟨rfl, HB1.out.trans (D9.out.mono HB1.out.size)⟩
  obtain ⟨k3, k4⟩ := FACT.out.2.2.2 ms k1 k2
  have K4' := hid k4
  have hz : decide (changedL (changedL ms ks) ls = changedL ms (joinedL ks ls)) = true := by simp [k4]
  clear k4
  go_wp2_with fail
  refine H9.out.mono ?_
  rintro e w9 ⟨rfl, hw9⟩
  have Y9 := hid (Y8.out.below hw9)
  have Z9 := hid (Z8.out.below hw9)
  have D9 := hid (D8.out.trans (hw9.mono D8.out.size))
  clear hw9
  go_wp2_with fail
  refine (sameMap_any A7 A8 c7 c8 (changedL (changedL ms ks) ls) (changedL ms (joinedL ks ls)) _ _ Y9.out.rp Z9.out.rp LYY.out).mono ?_
  rintro e w10 ⟨rfl, hw10⟩
  have D10 := hid (D9.out.trans ((hw10.below _).mono D9.out.size))
  clear hw10
  go_wp2_with fail
  go_ret
  exact ⟨rfl, HB1.out.trans (D10.out.mono HB1.out.size)⟩
end Go.Proofs.Ytoipcjdpfbgghab
