/-
  Three drawn maps; FnMergedSame: the walk.
  FnMergedSame answers true at every list of bytes, and its argument reads as it did. No condition.
-/
import Derived.Test.YtoipcjdpfbgghabSameMap
import Derived.Test.YtoipcjdpfbgghabDrawD
import Derived.Test.YtoipcjdpfbgghabDeltaG
import Derived.Test.YtoipcjdpfbgghabDeltaN
import Derived.Test.YtoipcjdpfbgghabBytesArg
namespace Go.Proofs.Ytoipcjdpfbgghab
open Go.RowKit

set_option maxHeartbeats 2000000 in
theorem sameTexts_same (A A' : Option Addr) (c c' : Nat) (xs : List ByteArray) (w : World) (hr : RTx w w.heap.size A xs) (hr' : RTx w w.heap.size A' xs) (hn : xs.length ≤ maxLen) :
    Calls Try.prog 25 #[.slice A xs.length c, .slice A' xs.length c'] w fun e w' => e = .returned (.bool true) ∧ Below w.heap.size w w' := by
  unfold maxLen at hn
  have g0 : ((xs.length : Int) != (xs.length : Int)) = false := by simp
  have HR := hid hr
  have HR' := hid hr'
  clear hr hr'
  go_enter Try.func25, Try.ntmps25
  go_wp2_with fail
  go_loopw [5] (fun i wr => ∃ k : Nat, k ≤ xs.length ∧ i = .int .i64 k ∧ Below w.heap.size w wr) (fun i _ => xs.length - (intOf i).toNat)
  case atStart => exact ⟨0, Nat.zero_le _, rfl, Below.refl _ w⟩
  case round =>
    obtain ⟨k, hk, rfl, hbw⟩ := hrel
    have HD := hid hbw
    by_cases hlt : k < xs.length
    · obtain ⟨b, off, rfl, hb, hc1⟩ := (HR.out.below hbw).at_ hlt
      obtain ⟨b', off', rfl, hb', hc2⟩ := (HR'.out.below hbw).at_ hlt
      have e5 : (0 : Int) ≤ (k : Int) := by omega
      have e6 : (k : Int) < (xs.length : Int) := by omega
      have h3 := eqS_true (rfl : xs[k] = xs[k])
      clear hbw
      go_wp2_with fail
      go_quiet (fail)
      go_wp2_with fail
      go_roundw
      case rel => exact ⟨k + 1, by omega, by go_num, ⟨HD.out.os, HD.out.tape, HD.out.output, HD.out.size, HD.out.block⟩⟩
      case measure => simp [intOf]; omega
    · obtain rfl : k = xs.length := by omega
      clear hbw
      go_wp2_with fail
      go_ret
      exact ⟨rfl, HD.out⟩


/-- Three drawn maps. -/
def TriD (w : World) (e : Ending) (w' : World) : Prop := ∃ A c ps A1 c1 qs A2 c2 rs, e = .returned (.tuple #[.slice A ps.length c, .slice A1 qs.length c1, .slice A2 rs.length c2]) ∧ (RP w' w'.heap.size A ps ∧ VS A c ps.length ∧ SmallP ps ∧ ps.length ≤ 60) ∧ (RP w' w'.heap.size A1 qs ∧ VS A1 c1 qs.length ∧ SmallP qs ∧ qs.length ≤ 60) ∧ (RP w' w'.heap.size A2 rs ∧ VS A2 c2 rs.length ∧ SmallP rs ∧ rs.length ≤ 60) ∧ Below w.heap.size w w'

set_option maxHeartbeats 4000000 in
set_option maxRecDepth 100000 in
theorem drawMerged_any (A : Option Addr) (n c : Nat) (w : World) (hc : CB w w.heap.size A n) (hn : n ≤ 1048576) :
    Calls Try.prog 22 #[.slice A n c] w (TriD w) := by
  have HC := hid hc
  clear hc
  go_enter Try.func22, Try.ntmps22
  go_wp2_with fail
  refine (open_any A n c _).mono ?_
  rintro e w1 ⟨rfl, hw1⟩
  obtain ⟨hr1, hb1, hc1⟩ := rd_start HC.out hn hw1
  have HR1 := hid hr1
  have HB1 := hid hb1
  have hsz1 : w.heap.size < w1.heap.size := hr1.lt.1
  clear hw1 hr1 hb1 hc1
  go_wp2_with fail
  refine (pairs_any w.heap.size w.heap.size 7 _ HR1.out (by omega)).mono ?_
  rintro e w2 ⟨A2, c2, ps, rfl, ho2, hm2, hr2, hg2⟩
  have HO2 := hid ho2
  have HS2 := hid (small_map hm2)
  have hl2 := (mapB_iff.1 hm2).1
  have HR2 := hid hr2
  have HB2 := hid (HB1.out.grown hg2 HB1.out.size (by simp))
  have hsz2 : w1.heap.size ≤ w2.heap.size := hg2.size
  have hpl : ps.length ≤ maxLen := by unfold maxLen; omega
  have HPL := hid hpl
  clear ho2 hm2 hr2 hg2 hpl
  go_wp2_with fail
  refine (delta_any w.heap.size w.heap.size _ HR2.out).mono ?_
  rintro e w3 ⟨A3, c3, ks, rfl, ho3, ht3, hl3, hr3, hg3⟩
  have HO3 := hid ho3
  have HT3 := hid ht3.fits
  have HR3 := hid hr3
  have HM3 := hid (HO2.out.keep_g hg3 hsz1)
  have HB3 := hid (HB2.out.grown hg3 HB2.out.size (by simp))
  have hsz3 : w2.heap.size ≤ w3.heap.size := hg3.size
  clear ho3 ht3 hr3 hg3
  go_wp2_with fail
  refine (spec_Changed A2 c2 ps A3 c3 ks _ HM3.out.rp HS2.out.fits HPL.out HO3.out.rh HT3.out (by unfold maxLen; omega)).mono ?_
  rintro e w4 ⟨A4, c4, rfl, ho4, hb4⟩
  have HO4 := hid ho4
  have HR4 := hid (HR3.out.below hb4)
  have HM4 := hid (HM3.out.below hb4)
  have HB4 := hid (HB3.out.trans (hb4.mono HB3.out.size))
  have hsz4 : w3.heap.size ≤ w4.heap.size := hb4.size
  have HSC := hid (small_changed (m := ps) (l := ks))
  clear ho4 hb4
  go_wp2_with fail
  refine (delta_any w.heap.size w.heap.size _ HR4.out).mono ?_
  rintro e w5 ⟨A5, c5, ls, rfl, ho5, ht5, hl5, hr5, hg5⟩
  have HO5 := hid ho5
  have HT5 := hid ht5.fits
  have HR5 := hid hr5
  have HM5 := hid (HM4.out.keep_g hg5 hsz1)
  have HA5 := hid (HO4.out.keep_g hg5 (by omega))
  have HB5 := hid (HB4.out.grown hg5 HB4.out.size (by simp))
  have hsz5 : w4.heap.size ≤ w5.heap.size := hg5.size
  clear ho5 ht5 hr5 hg5
  go_wp2_with fail
  refine (spec_Changed A2 c2 ps A5 c5 ls _ HM5.out.rp HS2.out.fits HPL.out HO5.out.rh HT5.out (by unfold maxLen; omega)).mono ?_
  rintro e w6 ⟨A6, c6, rfl, ho6, hb6⟩
  have HO6 := hid ho6
  have HR6 := hid (HR5.out.below hb6)
  have HM6 := hid (HM5.out.below hb6)
  have HA6 := hid (HA5.out.below hb6)
  have HB6 := hid (HB5.out.trans (hb6.mono HB5.out.size))
  have HSD := hid (small_changed (m := ps) (l := ls))
  clear ho6 hb6
  have HEND : Hid (∀ (W : World) (A9 : Option Addr) (c9 : Nat) (rs : PS), OwnP W w6.heap.size A9 c9 rs → OwnP W w1.heap.size A2 c2 ps → mapB rs = true → Below w.heap.size w W → TriD w (.returned (.tuple #[.slice A2 ps.length c2, .slice A2 ps.length c2, .slice A9 rs.length c9])) W) := by
    intro W A9 c9 rs h1 h2 h3 h4
    exact ⟨A2, c2, ps, A2, c2, ps, A9, c9, rs, rfl, ⟨h2.rp, h2.vs, HS2.out, hl2⟩, ⟨h2.rp, h2.vs, HS2.out, hl2⟩, ⟨h1.rp, h1.vs, small_map h3, (mapB_iff.1 h3).1⟩, h4⟩
  cases k1 : changedB ps ks
  · go_wp2_with fail
    refine (pairs_any w.heap.size w.heap.size 3 _ HR6.out (by omega)).mono ?_
    rintro e w7 ⟨A7, c7, rs, rfl, ho7, hm7, hr7, hg7⟩
    have HM7 := hid (HM6.out.keep_g hg7 hsz1)
    have HO7 := hid ho7
    have HB7 := hid (HB6.out.grown hg7 HB6.out.size (by simp))
    clear ho7 hr7 hg7
    go_wp2_with fail
    go_ret3
    exact HEND.out _ _ _ _ HO7.out HM7.out hm7 HB7.out
  cases k2 : changedB ps ls
  · go_wp2_with fail
    refine (pairs_any w.heap.size w.heap.size 3 _ HR6.out (by omega)).mono ?_
    rintro e w7 ⟨A7, c7, rs, rfl, ho7, hm7, hr7, hg7⟩
    have HM7 := hid (HM6.out.keep_g hg7 hsz1)
    have HO7 := hid ho7
    have HB7 := hid (HB6.out.grown hg7 HB6.out.size (by simp))
    clear ho7 hr7 hg7
    go_wp2_with fail
    go_ret3
    exact HEND.out _ _ _ _ HO7.out HM7.out hm7 HB7.out
  go_wp2_with fail
  go_ret3
  exact ⟨A2, c2, ps, A4, c4, _, A6, c6, _, rfl, ⟨HM6.out.rp, HM6.out.vs, HS2.out, hl2⟩, ⟨HA6.out.rp, HA6.out.vs, HSC.out.1, HSC.out.2⟩, ⟨HO6.out.rp, HO6.out.vs, HSD.out.1, HSD.out.2⟩, HB6.out⟩

theorem mergeR_no {m a b : PS} (h : mergeB m a b = false) : mergeR m a b = [] ∧ mergeT m a b = [] := by simp [mergeR, mergeT, h]
theorem mergeR_yes {m a b : PS} (h : mergeB m a b = true) : mergeR m a b = mergeL m a b ∧ mergeT m a b = mergeU m a b := by simp [mergeR, mergeT, h]
theorem merged_facts {m a : PS} (h : mergeB m a a = true) : (mergeR m a a = a ∧ mergeT m a a = []) ∧ (mergeB m a m = true ∧ mergeR m a m = a ∧ mergeT m a m = []) ∧ (mergeB m m a = true ∧ mergeR m m a = a ∧ mergeT m m a = []) := by
  have hh := h
  simp only [mergeB, Bool.and_eq_true, decide_eq_true_eq] at h
  obtain ⟨h1, h2, _, _⟩ := h
  obtain ⟨s1, s2⟩ := merge_same (mapB_iff.1 h1).2.2 (mapB_iff.1 h2).2.2
  obtain ⟨l1, l2⟩ := merge_left (m := m) (a := a) (mapB_iff.1 h1).2.2
  obtain ⟨r1, r2⟩ := merge_right (mapB_iff.1 h1).2.2 (mapB_iff.1 h2).2.2
  have b1 := mergeB_y h1 h2 h1 (by rw [l1]; exact (mapB_iff.1 h2).1)
  have b2 := mergeB_y h1 h1 h2 (by rw [r1]; exact (mapB_iff.1 h2).1)
  refine ⟨?_, ⟨b1, ?_⟩, b2, ?_⟩
  · rw [(mergeR_yes hh).1, (mergeR_yes hh).2]
    exact ⟨s1, s2⟩
  · rw [(mergeR_yes b1).1, (mergeR_yes b1).2]
    exact ⟨l1, l2⟩
  · rw [(mergeR_yes b2).1, (mergeR_yes b2).2]
    exact ⟨r1, r2⟩

set_option maxHeartbeats 8000000 in
set_option maxRecDepth 200000 in
theorem fnMergedSame_walk (A : Option Addr) (n c : Nat) (w : World) (hc : CB w w.heap.size A n) (hn : n ≤ maxLen) :
    Calls Try.prog 7 #[.slice A n c] w fun e w' => e = .returned (.bool true) ∧ Below w.heap.size w w' := by
  have HC := hid hc
  clear hc
  unfold maxLen at hn
  go_enter Try.func7, Try.ntmps7
  go_wp2_with fail
  refine (big_any A n c _).mono ?_
  rintro e w0 ⟨rfl, rfl⟩
  by_cases hbig : (1048576 : Int) < (n : Int)
  · go_wp2_with fail
    go_ret
    exact ⟨rfl, Below.refl _ _⟩
  go_wp2_with fail
  refine (drawMerged_any A n c _ HC.out (by omega)).mono ?_
  rintro e w1 ⟨A1, c1, ms, K1, d1, qs, A9, c9, rs, rfl, ⟨hr1, hv1, hs1, hl1⟩, ⟨hk1, hu1, ht1, hm1⟩, _, hb1⟩
  have RA := hid hr1
  have RK := hid hk1
  have VA := hid hv1
  have FA := hid hs1.fits
  have FK := hid ht1.fits
  have VK := hid hu1
  have hpl : ms.length ≤ maxLen := by unfold maxLen; omega
  have hql : qs.length ≤ maxLen := by unfold maxLen; omega
  have HPL := hid hpl
  have HQL := hid hql
  have HB1 := hid hb1
  clear hr1 hk1 hv1 hu1 hs1 ht1 hpl hql hb1
  cases hd : mergeB ms qs qs
  · obtain ⟨n1, n2⟩ := mergeR_no hd
    have h2 := impl_Merged A1 c1 ms K1 d1 qs K1 d1 qs w1 RA.out FA.out HPL.out RK.out FK.out HQL.out RK.out FK.out HQL.out VK.out
    rw [hd, n1, n2] at h2
    have H2 := hid h2
    have H3 : Hid (∀ W, Below w1.heap.size w1 W → Calls Try.prog 24 #[.slice A1 ms.length c1, .slice K1 qs.length d1, .slice K1 qs.length d1] W (MadeM W [] [] false)) := by
      intro W hW
      have h3 := spec_Merged A1 c1 ms K1 d1 qs K1 d1 qs W ((RA.out.below hW).more hW.size) FA.out HPL.out ((RK.out.below hW).more hW.size) FK.out HQL.out ((RK.out.below hW).more hW.size) FK.out HQL.out
      rwa [hd, n1, n2] at h3
    clear h2 n1 n2 hd
    go_wp2_with fail
    refine H2.out.mono ?_
    rintro e w2 ⟨A2, c2, T2, t2, rfl, ho2, _, hw2⟩
    have D2 := hid hw2
    clear ho2 hw2
    go_wp2_with fail
    refine (H3.out _ D2.out).mono ?_
    rintro e w3 ⟨A3, c3, T3, t3, rfl, ho3, _, hw3⟩
    have D3 := hid (D2.out.trans (hw3.mono D2.out.size))
    clear ho3 hw3
    go_wp2_with fail
    refine (sameMap_any A2 A3 c2 c3 [] [] w3.heap.size _ (.inl rfl) (.inl rfl) (by simp)).mono ?_
    rintro e w4 ⟨rfl, hw4⟩
    have D4 := hid (D3.out.trans ((hw4.below _).mono D3.out.size))
    clear hw4
    go_wp2_with fail
    refine (sameTexts_same T2 T3 t2 t3 [] _ (.inl rfl) (.inl rfl) (by simp)).mono ?_
    rintro e w5 ⟨rfl, hw5⟩
    have D5 := hid (D4.out.trans (hw5.mono D4.out.size))
    clear hw5
    go_wp2_with fail
    refine (sameMap_any A2 A3 c2 c3 [] [] w5.heap.size _ (.inl rfl) (.inl rfl) (by simp)).mono ?_
    rintro e w6 ⟨rfl, hw6⟩
    have D6 := hid (D5.out.trans ((hw6.below _).mono D5.out.size))
    clear hw6
    go_wp2_with fail
    refine (sameTexts_same T2 T3 t2 t3 [] _ (.inl rfl) (.inl rfl) (by simp)).mono ?_
    rintro e w7 ⟨rfl, hw7⟩
    have D7 := hid (D6.out.trans (hw7.mono D6.out.size))
    clear hw7
    go_wp2_with fail
    go_ret
    exact ⟨rfl, HB1.out.trans (D7.out.mono HB1.out.size)⟩
  obtain ⟨⟨n1, n2⟩, ⟨p0, p1, p2⟩, q0, q1, q2⟩ := merged_facts hd
  have h2 := impl_Merged A1 c1 ms K1 d1 qs K1 d1 qs w1 RA.out FA.out HPL.out RK.out FK.out HQL.out RK.out FK.out HQL.out VK.out
  rw [hd, n1, n2] at h2
  have H2 := hid h2
  have H3 : Hid (∀ W, Below w1.heap.size w1 W → Calls Try.prog 24 #[.slice A1 ms.length c1, .slice K1 qs.length d1, .slice K1 qs.length d1] W (MadeM W qs [] true)) := by
    intro W hW
    have h3 := spec_Merged A1 c1 ms K1 d1 qs K1 d1 qs W ((RA.out.below hW).more hW.size) FA.out HPL.out ((RK.out.below hW).more hW.size) FK.out HQL.out ((RK.out.below hW).more hW.size) FK.out HQL.out
    rwa [hd, n1, n2] at h3
  have H4 : Hid (∀ W, Below w1.heap.size w1 W → Calls Try.prog 23 #[.slice A1 ms.length c1, .slice K1 qs.length d1, .slice A1 ms.length c1] W (MadeM W qs [] true)) := by
    intro W hW
    have h3 := impl_Merged A1 c1 ms K1 d1 qs A1 c1 ms W ((RA.out.below hW).more hW.size) FA.out HPL.out ((RK.out.below hW).more hW.size) FK.out HQL.out ((RA.out.below hW).more hW.size) FA.out HPL.out VK.out
    rwa [p0, p1, p2] at h3
  have H5 : Hid (∀ W, Below w1.heap.size w1 W → Calls Try.prog 23 #[.slice A1 ms.length c1, .slice A1 ms.length c1, .slice K1 qs.length d1] W (MadeM W qs [] true)) := by
    intro W hW
    have h3 := impl_Merged A1 c1 ms A1 c1 ms K1 d1 qs W ((RA.out.below hW).more hW.size) FA.out HPL.out ((RA.out.below hW).more hW.size) FA.out HPL.out ((RK.out.below hW).more hW.size) FK.out HQL.out VA.out
    rwa [q0, q1, q2] at h3
  clear h2 n1 n2 hd p0 p1 p2 q0 q1 q2
  have hqq : decide (qs = qs) = true := by simp
  go_wp2_with fail
  refine H2.out.mono ?_
  rintro e w2 ⟨A2, c2, T2, t2, rfl, ho2, _, hw2⟩
  have HO2 := hid ho2
  have D2 := hid hw2
  clear ho2 hw2
  go_wp2_with fail
  refine (H3.out _ D2.out).mono ?_
  rintro e w3 ⟨A3, c3, T3, t3, rfl, ho3, _, hw3⟩
  have HO3 := hid ho3
  have X3 := hid (HO2.out.below hw3)
  have D3 := hid (D2.out.trans (hw3.mono D2.out.size))
  clear ho3 hw3
  go_wp2_with fail
  refine (sameMap_any A2 A3 c2 c3 qs qs _ _ X3.out.rp HO3.out.rp HQL.out).mono ?_
  rintro e w4 ⟨rfl, hw4⟩
  have X4 := hid (X3.out.below (hw4.below _))
  have D4 := hid (D3.out.trans ((hw4.below _).mono D3.out.size))
  clear hw4
  go_wp2_with fail
  refine (sameTexts_same T2 T3 t2 t3 [] _ (.inl rfl) (.inl rfl) (by simp)).mono ?_
  rintro e w5 ⟨rfl, hw5⟩
  have X5 := hid (X4.out.below hw5)
  have D5 := hid (D4.out.trans (hw5.mono D4.out.size))
  clear hw5
  go_wp2_with fail
  refine (H4.out _ D5.out).mono ?_
  rintro e w6 ⟨A6, c6, T6, t6, rfl, ho6, _, hw6⟩
  have HO6 := hid ho6
  have X6 := hid (X5.out.below hw6)
  have D6 := hid (D5.out.trans (hw6.mono D5.out.size))
  clear ho6 hw6
  go_wp2_with fail
  refine (H5.out _ D6.out).mono ?_
  rintro e w7 ⟨A7, c7, T7, t7, rfl, ho7, _, hw7⟩
  have HO7 := hid ho7
  have Y7 := hid (HO6.out.below hw7)
  have X7 := hid (X6.out.below hw7)
  have D7 := hid (D6.out.trans (hw7.mono D6.out.size))
  clear ho7 hw7
  go_wp2_with fail
  refine (sameMap_any A2 K1 c2 d1 qs qs _ _ X7.out.rp ((RK.out.below D7.out).more D7.out.size) HQL.out).mono ?_
  rintro e w8 ⟨rfl, hw8⟩
  have Y8 := hid (Y7.out.below (hw8.below _))
  have Z8 := hid (HO7.out.below (hw8.below _))
  have D8 := hid (D7.out.trans ((hw8.below _).mono D7.out.size))
  clear hw8
  go_wp2_with fail
  refine (sameMap_any A6 K1 c6 d1 qs qs _ _ Y8.out.rp ((RK.out.below D8.out).more D8.out.size) HQL.out).mono ?_
  rintro e w9 ⟨rfl, hw9⟩
  have Z9 := hid (Z8.out.below (hw9.below _))
  have D9 := hid (D8.out.trans ((hw9.below _).mono D8.out.size))
  clear hw9
  go_wp2_with fail
  refine (sameMap_any A7 K1 c7 d1 qs qs _ _ Z9.out.rp ((RK.out.below D9.out).more D9.out.size) HQL.out).mono ?_
  rintro e w10 ⟨rfl, hw10⟩
  have D10 := hid (D9.out.trans ((hw10.below _).mono D9.out.size))
  clear hw10
  go_wp2_with fail
  go_ret
  exact ⟨rfl, HB1.out.trans (D10.out.mono HB1.out.size)⟩
end Go.Proofs.Ytoipcjdpfbgghab
namespace Go.Proofs.Ytoipcjdpfbgghab
open Go.ChangeShapes Go.WideShapes Go.ChangeAt Go.RowKit

set_option maxRecDepth 100000 in
theorem mergedSame_lifted (os : Os) (started : os.Started) (H : Type) (enc : TypeId × Value → H) :
    ReturnsInHanded {} Try.checked os 7 .any (Rows.fnMergedSameSpec.pre6 enc Try.prog Try.f7 Rows.fnMergedSameRow.domain false) (Rows.fnMergedSameSpec.post enc Try.prog Try.f7 false true false false) := by
  refine returnsInHanded_of_change (C := Try.checked) own started (by kernel_rfl) Try.func7
    (ChangeSpec.witness6 (enc := enc) (C := Try.checked) false ⟨#[], #[.slice none 0 0], []⟩ 8 (by kernel_rfl) (by kernel_rfl) (by kernel_rfl) (by kernel_rfl)) ?_
  intro W base args ds gs before hval hW _ _
  have hW' := hW
  obtain ⟨p, q, hA0, hV, rfl, hfz, hnd⟩ := hW
  have hA : DataW.TrodAll enc Try.prog W 0 (fun _ => true) true Try.f7.params.toList args.toList ds p := hA0
  rw [Try.params7] at hA hval
  obtain ⟨v0, vs0, d0, ds0, p0, q0, hargs, rfl, rfl, h0, r0⟩ := trodAll_cons hA
  obtain ⟨rfl, rfl, rfl⟩ := trodAll_nil r0
  obtain rfl : args = #[v0] := by cases args; simp_all
  clear hargs
  obtain ⟨A0, n0, c0, rfl, cb0, nn0⟩ := open_code (hval 0 22 v0 rfl rfl) h0
  refine (fnMergedSame_walk A0 n0 c0 W cb0 nn0).mono fun e W' ⟨he, hw⟩ => ?_
  subst he
  exact ⟨_, rfl, law_post (tb := 4) laidOut (by kernel_rfl) rfl hW' Try.underlying4 (by kernel_rfl) (fun gs' e => by subst e; rfl) hw⟩

theorem mergedSame_holds : Rows.FnMergedSameSaid :=
  OpenClaim.holds_of_wide 7 Try.f7 rfl rfl rfl rfl rfl rfl rfl ⟨rfl, rfl, rfl, rfl, rfl⟩ rfl rfl rfl rfl rfl (by kernel_rfl) Try.func7 (by kernel_rfl)
    (of_decide_eq_true (by kernel_rfl)) (by unfold Func.isWrapper; rw [if_neg (of_decide_eq_false (by kernel_rfl))]; exact ⟨rfl, rfl⟩)
    (fun os started H enc _ => mergedSame_lifted os started H enc)
end Go.Proofs.Ytoipcjdpfbgghab
