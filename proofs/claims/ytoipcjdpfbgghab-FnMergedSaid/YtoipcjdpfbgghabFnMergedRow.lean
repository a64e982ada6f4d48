/-
  Three drawn maps; FnMergedSame: the walk.
  FnMergedSame answers true at every list of bytes, and its argument reads as it did. No condition.
  What a merged map has at a key, and what is told. Plain facts.
  FnMerged: the walk, and its row.
-/
import Derived.Test.YtoipcjdpfbgghabSameMap
import Derived.Test.YtoipcjdpfbgghabDrawD
import Derived.Test.YtoipcjdpfbgghabDeltaG
import Derived.Test.YtoipcjdpfbgghabDeltaN
import Derived.Test.YtoipcjdpfbgghabBytesArg
import Derived.Deep.CutRange
namespace Go.Proofs.Ytoipcjdpfbgghab
open Go.RowKit

set_option maxHeartbeats 2000000 in
theorem sameTexts_same (A A' : Option Addr) (c c' : Nat) (xs : List ByteArray) (w : World) (hr : RTx w w.heap.size A xs) (hr' : RTx w w.heap.size A' xs) (hn : xs.length ≤ maxLen) :
    Calls Try.prog 25 #[.slice A xs.length c, .slice A' xs.length c'] w fun e w' => e = .returned (.bool true) ∧ Below w.heap.size w w' := by
  unfold maxLen at hn
  have g0 : ((xs.length : Int) != (xs.length : Int)) = false := by simp
  have HR := hid hr
  have HR' := hid hr'
  clear hr hr'
  go_enter Try.func25, Try.ntmps25
  go_wp2_with fail
  go_loopw [5] (fun i wr => ∃ k : Nat, k ≤ xs.length ∧ i = .int .i64 k ∧ Below w.heap.size w wr) (fun i _ => xs.length - (intOf i).toNat)
  case atStart => exact ⟨0, Nat.zero_le _, rfl, Below.refl _ w⟩
  case round =>
    obtain ⟨k, hk, rfl, hbw⟩ := hrel
    have HD := hid hbw
    by_cases hlt : k < xs.length
    · obtain ⟨b, off, rfl, hb, hc1⟩ := (HR.out.below hbw).at_ hlt
      obtain ⟨b', off', rfl, hb', hc2⟩ := (HR'.out.below hbw).at_ hlt
      have e5 : (0 : Int) ≤ (k : Int) := by omega
      have e6 : (k : Int) < (xs.length : Int) := by omega
      have h3 := eqS_true (rfl : xs[k] = xs[k])
      clear hbw
      go_wp2_with fail
      go_quiet (fail)
      go_wp2_with fail
      go_roundw
      case rel => exact ⟨k + 1, by omega, by go_num, ⟨HD.out.os, HD.out.tape, HD.out.output, HD.out.size, HD.out.block⟩⟩
      case measure => simp [intOf]; omega
    · obtain rfl : k = xs.length := by omega
      clear hbw
      go_wp2_with fail
      go_ret
      exact ⟨rfl, HD.out⟩


/-- Three drawn maps. -/
def TriD (w : World) (e : Ending) (w' : World) : Prop := ∃ A c ps A1 c1 qs A2 c2 rs, e = .returned (.tuple #[.slice A ps.length c, .slice A1 qs.length c1, .slice A2 rs.length c2]) ∧ (RP w' w'.heap.size A ps ∧ VS A c ps.length ∧ SmallP ps ∧ ps.length ≤ 60) ∧ (RP w' w'.heap.size A1 qs ∧ VS A1 c1 qs.length ∧ SmallP qs ∧ qs.length ≤ 60) ∧ (RP w' w'.heap.size A2 rs ∧ VS A2 c2 rs.length ∧ SmallP rs ∧ rs.length ≤ 60) ∧ Below w.heap.size w w'

set_option maxHeartbeats 4000000 in
set_option maxRecDepth 100000 in
theorem drawMerged_any (A : Option Addr) (n c : Nat) (w : World) (hc : CB w w.heap.size A n) (hn : n ≤ 1048576) :
    Calls Try.prog 22 #[.slice A n c] w (TriD w) := by
  have HC := hid hc
  clear hc
  go_enter Try.func22, Try.ntmps22
  go_wp2_with fail
  refine (open_any A n c _).mono ?_
  rintro e w1 ⟨rfl, hw1⟩
  obtain ⟨hr1, hb1, hc1⟩ := rd_start HC.out hn hw1
  have HR1 := hid hr1
  have HB1 := hid hb1
  have hsz1 : w.heap.size < w1.heap.size := hr1.lt.1
  clear hw1 hr1 hb1 hc1
  go_wp2_with fail
  refine (pairs_any w.heap.size w.heap.size 7 _ HR1.out (by omega)).mono ?_
  rintro e w2 ⟨A2, c2, ps, rfl, ho2, hm2, hr2, hg2⟩
  have HO2 := hid ho2
  have HS2 := hid (small_map hm2)
  have hl2 := (mapB_iff.1 hm2).1
  have HR2 := hid hr2
  have HB2 := hid (HB1.out.grown hg2 HB1.out.size (by simp))
  have hsz2 : w1.heap.size ≤ w2.heap.size := hg2.size
  have hpl : ps.length ≤ maxLen := by unfold maxLen; omega
  have HPL := hid hpl
  clear ho2 hm2 hr2 hg2 hpl
  go_wp2_with fail
  refine (delta_any w.heap.size w.heap.size _ HR2.out).mono ?_
  rintro e w3 ⟨A3, c3, ks, rfl, ho3, ht3, hl3, hr3, hg3⟩
  have HO3 := hid ho3
  have HT3 := hid ht3.fits
  have HR3 := hid hr3
  have HM3 := hid (HO2.out.keep_g hg3 hsz1)
  have HB3 := hid (HB2.out.grown hg3 HB2.out.size (by simp))
  have hsz3 : w2.heap.size ≤ w3.heap.size := hg3.size
  clear ho3 ht3 hr3 hg3
  go_wp2_with fail
  refine (spec_Changed A2 c2 ps A3 c3 ks _ HM3.out.rp HS2.out.fits HPL.out HO3.out.rh HT3.out (by unfold maxLen; omega)).mono ?_
  rintro e w4 ⟨A4, c4, rfl, ho4, hb4⟩
  have HO4 := hid ho4
  have HR4 := hid (HR3.out.below hb4)
  have HM4 := hid (HM3.out.below hb4)
  have HB4 := hid (HB3.out.trans (hb4.mono HB3.out.size))
  have hsz4 : w3.heap.size ≤ w4.heap.size := hb4.size
  have HSC := hid (small_changed (m := ps) (l := ks))
  clear ho4 hb4
  go_wp2_with fail
  refine (delta_any w.heap.size w.heap.size _ HR4.out).mono ?_
  rintro e w5 ⟨A5, c5, ls, rfl, ho5, ht5, hl5, hr5, hg5⟩
  have HO5 := hid ho5
  have HT5 := hid ht5.fits
  have HR5 := hid hr5
  have HM5 := hid (HM4.out.keep_g hg5 hsz1)
  have HA5 := hid (HO4.out.keep_g hg5 (by omega))
  have HB5 := hid (HB4.out.grown hg5 HB4.out.size (by simp))
  have hsz5 : w4.heap.size ≤ w5.heap.size := hg5.size
  clear ho5 ht5 hr5 hg5
  go_wp2_with fail
  refine (spec_Changed A2 c2 ps A5 c5 ls _ HM5.out.rp HS2.out.fits HPL.out HO5.out.rh HT5.out (by unfold maxLen; omega)).mono ?_
  rintro e w6 ⟨A6, c6, rfl, ho6, hb6⟩
  have HO6 := hid ho6
  have HR6 := hid (HR5.out.below hb6)
  have HM6 := hid (HM5.out.below hb6)
  have HA6 := hid (HA5.out.below hb6)
  have HB6 := hid (HB5.out.trans (hb6.mono HB5.out.size))
  have HSD := hid (small_changed (m := ps) (l := ls))
  clear ho6 hb6
  have HEND : Hid (∀ (W : World) (A9 : Option Addr) (c9 : Nat) (rs : PS), OwnP W w6.heap.size A9 c9 rs → OwnP W w1.heap.size A2 c2 ps → mapB rs = true → Below w.heap.size w W → TriD w (.returned (.tuple #[.slice A2 ps.length c2, .slice A2 ps.length c2, .slice A9 rs.length c9])) W) := by
    intro W A9 c9 rs h1 h2 h3 h4
    exact ⟨A2, c2, ps, A2, c2, ps, A9, c9, rs, rfl, ⟨h2.rp, h2.vs, HS2.out, hl2⟩, ⟨h2.rp, h2.vs, HS2.out, hl2⟩, ⟨h1.rp, h1.vs, small_map h3, (mapB_iff.1 h3).1⟩, h4⟩
  cases k1 : changedB ps ks
  · go_wp2_with fail
    refine (pairs_any w.heap.size w.heap.size 3 _ HR6.out (by omega)).mono ?_
    rintro e w7 ⟨A7, c7, rs, rfl, ho7, hm7, hr7, hg7⟩
    have HM7 := hid (HM6.out.keep_g hg7 hsz1)
    have HO7 := hid ho7
    have HB7 := hid (HB6.out.grown hg7 HB6.out.size (by simp))
    clear ho7 hr7 hg7
    go_wp2_with fail
    go_ret3
    exact HEND.out _ _ _ _ HO7.out HM7.out hm7 HB7.out
  cases k2 : changedB ps ls
  · go_wp2_with fail
    refine (pairs_any w.heap.size w.heap.size 3 _ HR6.out (by omega)).mono ?_
    rintro e w7 ⟨A7, c7, rs, rfl, ho7, hm7, hr7, hg7⟩
    have HM7 := hid (HM6.out.keep_g hg7 hsz1)
    have HO7 := hid ho7
    have HB7 := hid (HB6.out.grown hg7 HB6.out.size (by simp))
    clear ho7 hr7 hg7
    go_wp2_with fail
    go_ret3
    exact HEND.out _ _ _ _ HO7.out HM7.out hm7 HB7.out
  go_wp2_with fail
  go_ret3
  exact ⟨A2, c2, ps, A4, c4, _, A6, c6, _, rfl, ⟨HM6.out.rp, HM6.out.vs, HS2.out, hl2⟩, ⟨HA6.out.rp, HA6.out.vs, HSC.out.1, HSC.out.2⟩, ⟨HO6.out.rp, HO6.out.vs, HSD.out.1, HSD.out.2⟩, HB6.out⟩

theorem mergeR_no {m a b : PS} (h : mergeB m a b = false) : mergeR m a b = [] ∧ mergeT m a b = [] := by simp [mergeR, mergeT, h]
theorem mergeR_yes {m a b : PS} (h : mergeB m a b = true) : mergeR m a b = mergeL m a b ∧ mergeT m a b = mergeU m a b := by simp [mergeR, mergeT, h]
theorem merged_facts {m a : PS} (h : mergeB m a a = true) : (mergeR m a a = a ∧ mergeT m a a = []) ∧ (mergeB m a m = true ∧ mergeR m a m = a ∧ mergeT m a m = []) ∧ (mergeB m m a = true ∧ mergeR m m a = a ∧ mergeT m m a = []) := by
  have hh := h
  simp only [mergeB, Bool.and_eq_true, decide_eq_true_eq] at h
  obtain ⟨h1, h2, _, _⟩ := h
  obtain ⟨s1, s2⟩ := merge_same (mapB_iff.1 h1).2.2 (mapB_iff.1 h2).2.2
  obtain ⟨l1, l2⟩ := merge_left (m := m) (a := a) (mapB_iff.1 h1).2.2
  obtain ⟨r1, r2⟩ := merge_right (mapB_iff.1 h1).2.2 (mapB_iff.1 h2).2.2
  have b1 := mergeB_y h1 h2 h1 (by rw [l1]; exact (mapB_iff.1 h2).1)
  have b2 := mergeB_y h1 h1 h2 (by rw [r1]; exact (mapB_iff.1 h2).1)
  refine ⟨?_, ⟨b1, ?_⟩, b2, ?_⟩
  · rw [(mergeR_yes hh).1, (mergeR_yes hh).2]
    exact ⟨s1, s2⟩
  · rw [(mergeR_yes b1).1, (mergeR_yes b1).2]
    exact ⟨l1, l2⟩
  · rw [(mergeR_yes b2).1, (mergeR_yes b2).2]
    exact ⟨r1, r2⟩

set_option maxHeartbeats 8000000 in
set_option maxRecDepth 200000 in
theorem fnMergedSame_walk (A : Option Addr) (n c : Nat) (w : World) (hc : CB w w.heap.size A n) (hn : n ≤ maxLen) :
    Calls Try.prog 7 #[.slice A n c] w fun e w' => e = .returned (.bool true) ∧ Below w.heap.size w w' := by
  have HC := hid hc
  clear hc
  unfold maxLen at hn
  go_enter Try.func7, Try.ntmps7
  go_wp2_with fail
  refine (big_any A n c _).mono ?_
  rintro e w0 ⟨rfl, rfl⟩
  by_cases hbig : (1048576 : Int) < (n : Int)
  · go_wp2_with fail
    go_ret
    exact ⟨rfl, Below.refl _ _⟩
  go_wp2_with fail
  refine (drawMerged_any A n c _ HC.out (by omega)).mono ?_
  rintro e w1 ⟨A1, c1, ms, K1, d1, qs, A9, c9, rs, rfl, ⟨hr1, hv1, hs1, hl1⟩, ⟨hk1, hu1, ht1, hm1⟩, _, hb1⟩
  have RA := hid hr1
  have RK := hid hk1
  have VA := hid hv1
  have FA := hid hs1.fits
  have FK := hid ht1.fits
  have VK := hid hu1
  have hpl : ms.length ≤ maxLen := by unfold maxLen; omega
  have hql : qs.length ≤ maxLen := by unfold maxLen; omega
  have HPL := hid hpl
  have HQL := hid hql
  have HB1 := hid hb1
  clear hr1 hk1 hv1 hu1 hs1 ht1 hpl hql hb1
  cases hd : mergeB ms qs qs
  · obtain ⟨n1, n2⟩ := mergeR_no hd
    have h2 := impl_Merged A1 c1 ms K1 d1 qs K1 d1 qs w1 RA.out FA.out HPL.out RK.out FK.out HQL.out RK.out FK.out HQL.out VK.out
    rw [hd, n1, n2] at h2
    have H2 := hid h2
    have H3 : Hid (∀ W, Below w1.heap.size w1 W → Calls Try.prog 24 #[.slice A1 ms.length c1, .slice K1 qs.length d1, .slice K1 qs.length d1] W (MadeM W [] [] false)) := by
      intro W hW
      have h3 := spec_Merged A1 c1 ms K1 d1 qs K1 d1 qs W ((RA.out.below hW).more hW.size) FA.out HPL.out ((RK.out.below hW).more hW.size) FK.out HQL.out ((RK.out.below hW).more hW.size) FK.out HQL.out
      rwa [hd, n1, n2] at h3
    clear h2 n1 n2 hd
    go_wp2_with fail
    refine H2.out.mono ?_
    rintro e w2 ⟨A2, c2, T2, t2, rfl, ho2, _, hw2⟩
    have D2 := hid hw2
    clear ho2 hw2
    go_wp2_with fail
    refine (H3.out _ D2.out).mono ?_
    rintro e w3 ⟨A3, c3, T3, t3, rfl, ho3, _, hw3⟩
    have D3 := hid (D2.out.trans (hw3.mono D2.out.size))
    clear ho3 hw3
    go_wp2_with fail
    refine (sameMap_any A2 A3 c2 c3 [] [] w3.heap.size _ (.inl rfl) (.inl rfl) (by simp)).mono ?_
    rintro e w4 ⟨rfl, hw4⟩
    have D4 := hid (D3.out.trans ((hw4.below _).mono D3.out.size))
    clear hw4
    go_wp2_with fail
    refine (sameTexts_same T2 T3 t2 t3 [] _ (.inl rfl) (.inl rfl) (by simp)).mono ?_
    rintro e w5 ⟨rfl, hw5⟩
    have D5 := hid (D4.out.trans (hw5.mono D4.out.size))
    clear hw5
    go_wp2_with fail
    refine (sameMap_any A2 A3 c2 c3 [] [] w5.heap.size _ (.inl rfl) (.inl rfl) (by simp)).mono ?_
    rintro e w6 ⟨rfl, hw6⟩
    have D6 := hid (D5.out.trans ((hw6.below _).mono D5.out.size))
    clear hw6
    go_wp2_with fail
    refine (sameTexts_same T2 T3 t2 t3 [] _ (.inl rfl) (.inl rfl) (by simp)).mono ?_
    rintro e w7 ⟨rfl, hw7⟩
    have D7 := hid (D6.out.trans (hw7.mono D6.out.size))
    clear hw7
    go_wp2_with fail
    go_ret
    exact ⟨rfl, HB1.out.trans (D7.out.mono HB1.out.size)⟩
  obtain ⟨⟨n1, n2⟩, ⟨p0, p1, p2⟩, q0, q1, q2⟩ := merged_facts hd
  have h2 := impl_Merged A1 c1 ms K1 d1 qs K1 d1 qs w1 RA.out FA.out HPL.out RK.out FK.out HQL.out RK.out FK.out HQL.out VK.out
  rw [hd, n1, n2] at h2
  have H2 := hid h2
  have H3 : Hid (∀ W, Below w1.heap.size w1 W → Calls Try.prog 24 #[.slice A1 ms.length c1, .slice K1 qs.length d1, .slice K1 qs.length d1] W (MadeM W qs [] true)) := by
    intro W hW
    have h3 := spec_Merged A1 c1 ms K1 d1 qs K1 d1 qs W ((RA.out.below hW).more hW.size) FA.out HPL.out ((RK.out.below hW).more hW.size) FK.out HQL.out ((RK.out.below hW).more hW.size) FK.out HQL.out
    rwa [hd, n1, n2] at h3
  have H4 : Hid (∀ W, Below w1.heap.size w1 W → Calls Try.prog 23 #[.slice A1 ms.length c1, .slice K1 qs.length d1, .slice A1 ms.length c1] W (MadeM W qs [] true)) := by
    intro W hW
    have h3 := impl_Merged A1 c1 ms K1 d1 qs A1 c1 ms W ((RA.out.below hW).more hW.size) FA.out HPL.out ((RK.out.below hW).more hW.size) FK.out HQL.out ((RA.out.below hW).more hW.size) FA.out HPL.out VK.out
    rwa [p0, p1, p2] at h3
  have H5 : Hid (∀ W, Below w1.heap.size w1 W → Calls Try.prog 23 #[.slice A1 ms.length c1, .slice A1 ms.length c1, .slice K1 qs.length d1] W (MadeM W qs [] true)) := by
    intro W hW
    have h3 := impl_Merged A1 c1 ms A1 c1 ms K1 d1 qs W ((RA.out.below hW).more hW.size) FA.out HPL.out ((RA.out.below hW).more hW.size) FA.out HPL.out ((RK.out.below hW).more hW.size) FK.out HQL.out VA.out
    rwa [q0, q1, q2] at h3
  clear h2 n1 n2 hd p0 p1 p2 q0 q1 q2
  have hqq : decide (qs = qs) = true := by simp
  go_wp2_with fail
  refine H2.out.mono ?_
  rintro e w2 ⟨A2, c2, T2, t2, rfl, ho2, _, hw2⟩
  have HO2 := hid ho2
  have D2 := hid hw2
  clear ho2 hw2
  go_wp2_with fail
  refine (H3.out _ D2.out).mono ?_
  rintro e w3 ⟨A3, c3, T3, t3, rfl, ho3, _, hw3⟩
  have HO3 := hid ho3
  have X3 := hid (HO2.out.below hw3)
  have D3 := hid (D2.out.trans (hw3.mono D2.out.size))
  clear ho3 hw3
  go_wp2_with fail
  refine (sameMap_any A2 A3 c2 c3 qs qs _ _ X3.out.rp HO3.out.rp HQL.out).mono ?_
  rintro e w4 ⟨rfl, hw4⟩
  have X4 := hid (X3.out.below (hw4.below _))
  have D4 := hid (D3.out.trans ((hw4.below _).mono D3.out.size))
  clear hw4
  go_wp2_with fail
  refine (sameTexts_same T2 T3 t2 t3 [] _ (.inl rfl) (.inl rfl) (by simp)).mono ?_
  rintro e w5 ⟨rfl, hw5⟩
  have X5 := hid (X4.out.below hw5)
  have D5 := hid (D4.out.trans (hw5.mono D4.out.size))
  clear hw5
  go_wp2_with fail
  refine (H4.out _ D5.out).mono ?_
  rintro e w6 ⟨A6, c6, T6, t6, rfl, ho6, _, hw6⟩
  have HO6 := hid ho6
  have X6 := hid (X5.out.below hw6)
  have D6 := hid (D5.out.trans (hw6.mono D5.out.size))
  clear ho6 hw6
  go_wp2_with fail
  refine (H5.out _ D6.out).mono ?_
  rintro e w7 ⟨A7, c7, T7, t7, rfl, ho7, _, hw7⟩
  have HO7 := hid ho7
  have Y7 := hid (HO6.out.below hw7)
  have X7 := hid (X6.out.below hw7)
  have D7 := hid (D6.out.trans (hw7.mono D6.out.size))
  clear ho7 hw7
  go_wp2_with fail
  refine (sameMap_any A2 K1 c2 d1 qs qs _ _ X7.out.rp ((RK.out.below D7.out).more D7.out.size) HQL.out).mono ?_
  rintro e w8 ⟨rfl, hw8⟩
  have Y8 := hid (Y7.out.below (hw8.below _))
  have Z8 := hid (HO7.out.below (hw8.below _))
  have D8 := hid (D7.out.trans ((hw8.below _).mono D7.out.size))
  clear hw8
  go_wp2_with fail
  refine (sameMap_any A6 K1 c6 d1 qs qs _ _ Y8.out.rp ((RK.out.below D8.out).more D8.out.size) HQL.out).mono ?_
  rintro e w9 ⟨rfl, hw9⟩
  have Z9 := hid (Z8.out.below (hw9.below _))
  have D9 := hid (D8.out.trans ((hw9.below _).mono D8.out.size))
  clear hw9
  go_wp2_with fail
  refine (sameMap_any A7 K1 c7 d1 qs qs _ _ Z9.out.rp ((RK.out.below D9.out).more D9.out.size) HQL.out).mono ?_
  rintro e w10 ⟨rfl, hw10⟩
  have D10 := hid (D9.out.trans ((hw10.below _).mono D9.out.size))
  clear hw10
  go_wp2_with fail
  go_ret
  exact ⟨rfl, HB1.out.trans (D10.out.mono HB1.out.size)⟩
end Go.Proofs.Ytoipcjdpfbgghab
namespace Go.Proofs.Ytoipcjdpfbgghab
open Go.ChangeShapes Go.WideShapes Go.ChangeAt Go.RowKit

set_option maxRecDepth 100000 in
theorem mergedSame_lifted (os : Os) (started : os.Started) (H : Type) (enc : TypeId × Value → H) :
    ReturnsInHanded {} Try.checked os 7 .any (Rows.fnMergedSameSpec.pre6 enc Try.prog Try.f7 Rows.fnMergedSameRow.domain false) (Rows.fnMergedSameSpec.post enc Try.prog Try.f7 false true false false) := by
  refine returnsInHanded_of_change (C := Try.checked) own started (by kernel_rfl) Try.func7
    (ChangeSpec.witness6 (enc := enc) (C := Try.checked) false ⟨#[], #[.slice none 0 0], []⟩ 8 (by kernel_rfl) (by kernel_rfl) (by kernel_rfl) (by kernel_rfl)) ?_
  intro W base args ds gs before hval hW _ _
  have hW' := hW
  obtain ⟨p, q, hA0, hV, rfl, hfz, hnd⟩ := hW
  have hA : DataW.TrodAll enc Try.prog W 0 (fun _ => true) true Try.f7.params.toList args.toList ds p := hA0
  rw [Try.params7] at hA hval
  obtain ⟨v0, vs0, d0, ds0, p0, q0, hargs, rfl, rfl, h0, r0⟩ := trodAll_cons hA
  obtain ⟨rfl, rfl, rfl⟩ := trodAll_nil r0
  obtain rfl : args = #[v0] := by cases args; simp_all
  clear hargs
  obtain ⟨A0, n0, c0, rfl, cb0, nn0⟩ := open_code (hval 0 22 v0 rfl rfl) h0
  refine (fnMergedSame_walk A0 n0 c0 W cb0 nn0).mono fun e W' ⟨he, hw⟩ => ?_
  subst he
  exact ⟨_, rfl, law_post (tb := 4) laidOut (by kernel_rfl) rfl hW' Try.underlying4 (by kernel_rfl) (fun gs' e => by subst e; rfl) hw⟩

theorem mergedSame_holds : Rows.FnMergedSameSaid :=
  OpenClaim.holds_of_wide 7 Try.f7 rfl rfl rfl rfl rfl rfl rfl ⟨rfl, rfl, rfl, rfl, rfl⟩ rfl rfl rfl rfl rfl (by kernel_rfl) Try.func7 (by kernel_rfl)
    (of_decide_eq_true (by kernel_rfl)) (by unfold Func.isWrapper; rw [if_neg (of_decide_eq_false (by kernel_rfl))]; exact ⟨rfl, rfl⟩)
    (fun os started H enc _ => mergedSame_lifted os started H enc)
end Go.Proofs.Ytoipcjdpfbgghab
namespace Go.Proofs.Ytoipcjdpfbgghab

/-- What a map has at a key. -/
def look (m : PS) (k : ByteArray) : ByteArray × Bool := (valOf m k, hasK m k)
theorem look_none {m : PS} {k : ByteArray} (h : hasK m k = false) : look m k = (⟨#[]⟩, false) := by
  have : valOf m k = ⟨#[]⟩ := by
    rw [valOf]
    have : m.find? (fun p => decide (p.1 = k)) = none := by
      rw [List.find?_eq_none]
      intro p hp
      simpa using hasK_not h hp
    rw [this]
  rw [look, this, h]
theorem mem_look {m : PS} (hm : risesB m = true) (p : BB) : p ∈ m ↔ look m p.1 = (p.2, true) := by
  have h0 : (m.any fun q => decide (q = p)) = true ↔ p ∈ m := by simp
  rw [← h0, there_iff hm p, Bool.and_eq_true, decide_eq_true_eq, look, Prod.mk.injEq]
  exact and_comm
theorem look_ext {a b : PS} (ha : risesB a = true) (hb : risesB b = true) (h : ∀ k, look a k = look b k) : a = b :=
  prises_ext (rises_pw.1 ha) (rises_pw.1 hb) fun p => by rw [mem_look ha, mem_look hb, h]
theorem hasC_iffM {l : CS} {k : ByteArray} : hasC l k = true ↔ ∃ x ∈ l, x.1 = k := by
  rw [hasC_any, List.any_eq_true]
  simp
theorem hasC_notM {l : CS} {k : ByteArray} (h : hasC l k = false) {x : CD} (hx : x ∈ l) : x.1 ≠ k := by
  intro e
  have : hasC l k = true := hasC_iffM.2 ⟨x, hx, e⟩
  rw [h] at this
  cases this
theorem look_apply {m : PS} {l : CS} (hm : risesB m = true) (hl : CRises l) (k : ByteArray) :
    look (applyL m l) k = if hasC l k then (if (findC l k).2.2 then (⟨#[]⟩, false) else ((findC l k).2.1, true)) else look m k := by
  have hr := applyL_rises hm l
  cases hc : hasC l k
  · rw [if_neg (by simp)]
    cases hk : hasK m k
    · rw [look_none hk]
      refine look_none ?_
      rw [Bool.eq_false_iff]
      intro h
      obtain ⟨p, hp, e⟩ := hasK_mem.1 h
      rcases (mem_applyL hl hm p).1 hp with ⟨x, hx, _, rfl⟩ | ⟨h1, _⟩
      · exact hasC_notM hc hx e
      · exact hasK_not hk h1 e
    · obtain ⟨p, hp, rfl⟩ := hasK_mem.1 hk
      have h1 := (mem_look hm p).1 hp
      rw [h1]
      exact (mem_look hr p).1 ((mem_applyL hl hm p).2 (.inr ⟨hp, fun x hx => hasC_notM hc hx⟩))
  · rw [if_pos rfl]
    obtain ⟨x, hx, rfl⟩ := hasC_iffM.1 hc
    rw [findC_mem hl hx]
    cases hg : x.2.2
    · rw [if_neg (by simp)]
      exact (mem_look hr (x.1, x.2.1)).1 ((mem_applyL hl hm _).2 (.inl ⟨x, hx, hg, rfl⟩))
    · rw [if_pos rfl]
      refine look_none ?_
      rw [Bool.eq_false_iff]
      intro h
      obtain ⟨p, hp, e⟩ := hasK_mem.1 h
      rcases (mem_applyL hl hm p).1 hp with ⟨y, hy, h1, rfl⟩ | ⟨_, h2⟩
      · have e : y.1 = x.1 := e
        have : y = x := by rw [← findC_mem hl hy, ← findC_mem hl hx, e]
        rw [this, hg] at h1
        cases h1
      · exact h2 x hx e.symm

/-- The change that makes what a has at a key. -/
def wantC (a : PS) (k : ByteArray) : CD := if hasK a k then (k, valOf a k, false) else (k, ⟨#[]⟩, true)
theorem delta_want {m a : PS} (hm : risesB m = true) (ha : risesB a = true) {k : ByteArray} (h : look m k ≠ look a k) : wantC a k ∈ deltaL m a := by
  rw [deltaL_iff hm ha, wantC]
  cases hk : hasK a k
  · right
    cases hj : hasK m k
    · exact absurd (by rw [look_none hk, look_none hj]) h
    · obtain ⟨p, hp, rfl⟩ := hasK_mem.1 hj
      exact ⟨p, hp, hk, rfl⟩
  · left
    obtain ⟨p, hp, rfl⟩ := hasK_mem.1 hk
    have h1 := (mem_look ha p).1 hp
    have h2 : valOf a p.1 = p.2 := congrArg Prod.fst h1
    refine ⟨p, hp, fun hq => h ?_, by rw [h2]; rfl⟩
    rw [h1, (mem_look hm p).1 hq]
theorem delta_only {m a : PS} (hm : risesB m = true) (ha : risesB a = true) {x : CD} (h : x ∈ deltaL m a) : x = wantC a x.1 ∧ look m x.1 ≠ look a x.1 := by
  rcases (deltaL_iff hm ha x).1 h with ⟨q, h3, h4, rfl⟩ | ⟨q, h3, h4, rfl⟩
  · have h1 := (mem_look ha q).1 h3
    have e1 : valOf a q.1 = q.2 := congrArg Prod.fst h1
    have e2 : hasK a q.1 = true := congrArg Prod.snd h1
    refine ⟨?_, fun e => h4 ((mem_look hm q).2 (e.trans h1))⟩
    show putOf q = wantC a q.1
    rw [wantC, e2, if_pos rfl, e1]
    rfl
  · have h4 : hasK a q.1 = false := h4
    refine ⟨?_, fun e => ?_⟩
    · show goneOf q = wantC a q.1
      rw [wantC, h4, if_neg (by simp)]
      rfl
    · have e : look m q.1 = look a q.1 := e
      rw [(mem_look hm q).1 h3, look_none h4] at e
      have := congrArg Prod.snd e
      cases this
theorem delta_has {m a : PS} (hm : risesB m = true) (ha : risesB a = true) (k : ByteArray) : hasC (deltaL m a) k = true ↔ look m k ≠ look a k := by
  constructor
  · intro h
    obtain ⟨x, hx, rfl⟩ := hasC_iffM.1 h
    exact (delta_only hm ha hx).2
  · intro h
    refine hasC_iffM.2 ⟨_, delta_want hm ha h, ?_⟩
    rw [wantC]
    split <;> rfl
theorem delta_find {m a : PS} (hm : risesB m = true) (ha : risesB a = true) {k : ByteArray} (h : hasC (deltaL m a) k = true) : findC (deltaL m a) k = wantC a k := by
  obtain ⟨x, hx, rfl⟩ := hasC_iffM.1 h
  rw [findC_mem (deltaL_rises hm ha) hx]
  exact (delta_only hm ha hx).1
theorem want_look (a : PS) (k : ByteArray) : (if (wantC a k).2.2 then ((⟨#[]⟩ : ByteArray), false) else ((wantC a k).2.1, true)) = look a k := by
  unfold wantC
  cases h : hasK a k
  · rw [look_none h]
    rfl
  · rw [look, h]
    rfl
theorem want_same (a b : PS) (k : ByteArray) : wantC a k = wantC b k ↔ look a k = look b k := by
  constructor
  · intro h
    rw [← want_look a k, ← want_look b k, h]
  · intro h
    have h1 : valOf a k = valOf b k := congrArg Prod.fst h
    have h2 : hasK a k = hasK b k := congrArg Prod.snd h
    rw [wantC, wantC, h1, h2]
theorem more_rises {x y : CS} (hy : CRises y) : CRises (moreL x y) := List.Pairwise.sublist List.filter_sublist hy
theorem more_has (x y : CS) (k : ByteArray) : hasC (moreL x y) k = true ↔ hasC y k = true ∧ hasC x k = false := by
  rw [hasC_iffM, hasC_iffM]
  constructor
  · rintro ⟨z, hz, rfl⟩
    obtain ⟨h1, h2⟩ := List.mem_filter.1 hz
    exact ⟨⟨z, h1, rfl⟩, by simpa using h2⟩
  · rintro ⟨⟨z, hz, rfl⟩, h2⟩
    exact ⟨z, List.mem_filter.2 ⟨hz, by simpa using h2⟩, rfl⟩
theorem more_find {x y : CS} (hy : CRises y) {k : ByteArray} (h : hasC (moreL x y) k = true) : findC (moreL x y) k = findC y k := by
  obtain ⟨z, hz, rfl⟩ := hasC_iffM.1 h
  rw [findC_mem (more_rises hy) hz, findC_mem hy (List.mem_filter.1 hz).1]
theorem merge_look {m a b : PS} (hm : risesB m = true) (ha : risesB a = true) (hb : risesB b = true) (k : ByteArray) :
    look (mergeL m a b) k = if look a k = look m k then look b k else look a k := by
  have hy := deltaL_rises hm hb
  rw [mergeL, look_apply ha (more_rises hy)]
  cases hc : hasC (moreL (deltaL m a) (deltaL m b)) k
  · rw [if_neg (by simp)]
    split
    · rename_i e
      cases h1 : hasC (deltaL m b) k
      · have h2 : look m k = look b k := by
          apply Decidable.byContradiction
          intro h
          have := (delta_has hm hb k).2 h
          rw [h1] at this
          cases this
        rw [e, h2]
      · have h2 : hasC (deltaL m a) k = false := by
          rw [Bool.eq_false_iff]
          intro h
          exact (delta_has hm ha k).1 h e.symm
        have := (more_has (deltaL m a) (deltaL m b) k).2 ⟨h1, h2⟩
        rw [hc] at this
        cases this
    · rfl
  · obtain ⟨h1, h2⟩ := (more_has _ _ _).1 hc
    rw [if_pos rfl, more_find hy hc, delta_find hm hb h1, want_look]
    have e : look m k = look a k := by
      apply Decidable.byContradiction
      intro h
      have := (delta_has hm ha k).2 h
      rw [h2] at this
      cases this
    rw [if_pos e.symm]
theorem merge_told {m a b : PS} (hm : risesB m = true) (ha : risesB a = true) (hb : risesB b = true) (k : ByteArray) :
    k ∈ mergeU m a b ↔ look a k ≠ look m k ∧ look b k ≠ look m k ∧ look a k ≠ look b k := by
  have hy := deltaL_rises hm hb
  rw [mergeU, unlikeL, List.mem_map]
  constructor
  · rintro ⟨p, hp, rfl⟩
    obtain ⟨h1, h2⟩ := List.mem_filter.1 hp
    simp only [Bool.and_eq_true, Bool.not_eq_true', decide_eq_false_iff_not] at h2
    have e := (delta_only hm hb h1).1
    rw [delta_find hm ha h2.1] at h2
    refine ⟨fun e => (delta_has hm ha _).1 h2.1 e.symm, fun e => (delta_only hm hb h1).2 e.symm, fun e' => h2.2 ?_⟩
    rw [(want_same a b _).2 e']
    exact e.symm
  · rintro ⟨h1, h2, h3⟩
    refine ⟨wantC b k, List.mem_filter.2 ⟨delta_want hm hb (fun e => h2 e.symm), ?_⟩, by rw [wantC]; split <;> rfl⟩
    have e : (wantC b k).1 = k := by rw [wantC]; split <;> rfl
    have hx := (delta_has hm ha k).2 fun e => h1 e.symm
    rw [e, hx, delta_find hm ha hx]
    simp only [Bool.true_and, Bool.not_eq_true', decide_eq_false_iff_not]
    intro e'
    exact h3 ((want_same a b k).1 e')
theorem merge_turn {m a b : PS} (hm : risesB m = true) (ha : risesB a = true) (hb : risesB b = true) (h : mergeU m a b = []) : mergeL m b a = mergeL m a b ∧ mergeU m b a = [] := by
  have hno : ∀ k, ¬ (look a k ≠ look m k ∧ look b k ≠ look m k ∧ look a k ≠ look b k) := fun k hk => by
    have := (merge_told hm ha hb k).2 hk
    rw [h] at this
    cases this
  constructor
  · refine look_ext (applyL_rises hb _) (applyL_rises ha _) fun k => ?_
    show look (mergeL m b a) k = look (mergeL m a b) k
    rw [merge_look hm hb ha, merge_look hm ha hb]
    by_cases h1 : look a k = look m k
    · by_cases h2 : look b k = look m k
      · rw [if_pos h2, if_pos h1, h1, h2]
      · rw [if_neg h2, if_pos h1]
    · by_cases h2 : look b k = look m k
      · rw [if_pos h2, if_neg h1]
      · rw [if_neg h2, if_neg h1]
        apply Decidable.byContradiction
        intro h3
        exact hno k ⟨h1, h2, fun e => h3 e.symm⟩
  · rw [List.eq_nil_iff_forall_not_mem]
    intro k hk
    obtain ⟨h1, h2, h3⟩ := (merge_told hm hb ha k).1 hk
    exact hno k ⟨h2, h1, fun e => h3 e.symm⟩
end Go.Proofs.Ytoipcjdpfbgghab
namespace Go.Proofs.Ytoipcjdpfbgghab
open Go.RowKit

theorem get_look {m : PS} (hm : mapB m = true) (k : ByteArray) : getV m k = (look m k).1 ∧ getB m k = (look m k).2 := by simp [getV, getB, hm, look]
theorem merge_facts {m a b : PS} (h : mergeB m a b = true) : mapB m = true ∧ mapB a = true ∧ mapB b = true ∧ mergeR m a b = mergeL m a b ∧ mergeT m a b = mergeU m a b ∧ mapB (mergeL m a b) = true ∧
    (∀ k, look (mergeL m a b) k = if look a k = look m k then look b k else look a k) ∧ (∀ k, k ∈ mergeU m a b ↔ look a k ≠ look m k ∧ look b k ≠ look m k ∧ look a k ≠ look b k) ∧
    (mergeU m a b = [] → mergeB m b a = true ∧ mergeR m b a = mergeL m a b ∧ mergeT m b a = []) ∧ (mergeU m a b).length ≤ 120 := by
  have hh := h
  simp only [mergeB, Bool.and_eq_true, decide_eq_true_eq] at h
  obtain ⟨h1, h2, h3, h4⟩ := h
  have r1 := (mapB_iff.1 h1).2.2
  have r2 := (mapB_iff.1 h2).2.2
  have r3 := (mapB_iff.1 h3).2.2
  refine ⟨h1, h2, h3, (mergeR_yes hh).1, (mergeR_yes hh).2, by rw [mergeL_ok h1 h2 h3]; simpa using h4, merge_look r1 r2 r3, merge_told r1 r2 r3, fun hu => ?_, Nat.le_trans (unlikeL_len _ _) (len_delta h1 h3)⟩
  obtain ⟨t1, t2⟩ := merge_turn r1 r2 r3 hu
  have hb : mergeB m b a = true := mergeB_y h1 h3 h2 (by rw [t1]; exact h4)
  exact ⟨hb, by rw [(mergeR_yes hb).1, t1], by rw [(mergeR_yes hb).2, t2]⟩
def toldB (U : List ByteArray) (k : ByteArray) : Bool := U.any fun s => decide (s = k)
theorem told_succ {U : List ByteArray} {i : Nat} (k : ByteArray) (h : i < U.length) : toldB (U.take (i + 1)) k = (toldB (U.take i) k || decide (U[i] = k)) := by
  rw [toldB, toldB, List.take_succ_eq_append_getElem h, List.any_append]
  simp
theorem told_yes {U : List ByteArray} {k : ByteArray} (h : k ∈ U) : toldB U k = true := List.any_eq_true.2 ⟨k, h, by simp⟩
theorem told_no {U : List ByteArray} {k : ByteArray} (h : ¬ k ∈ U) : toldB U k = false := by
  rw [toldB, List.any_eq_false]
  intro s hs
  simp only [decide_eq_true_eq]
  rintro rfl
  exact h hs
theorem ne_snd {a c : ByteArray} {b d : Bool} (h : b ≠ d) : (a, b) ≠ (c, d) := fun e => h (congrArg Prod.snd e)
theorem ne_fst {a c : ByteArray} {b d : Bool} (h : a ≠ c) : (a, b) ≠ (c, d) := fun e => h (congrArg Prod.fst e)
theorem beq_no {b d : Bool} (h : b ≠ d) : (b == d) = false := by simp [h]
theorem beq_yes {b d : Bool} (h : b = d) : (b == d) = true := by simp [h]
theorem three (a c : ByteArray) (b d : Bool) : (a = c ∧ b = d) ∨ (a = c ∧ b ≠ d) ∨ a ≠ c := by
  by_cases h : a = c
  · by_cases g : b = d
    · exact .inl ⟨h, g⟩
    · exact .inr (.inl ⟨h, g⟩)
  · exact .inr (.inr h)

set_option maxHeartbeats 40000000 in
set_option maxRecDepth 200000 in
theorem fnMerged_walk (A : Option Addr) (n c : Nat) (w : World) (hc : CB w w.heap.size A n) (hn : n ≤ maxLen) :
    Calls Try.prog 5 #[.slice A n c] w fun e w' => e = .returned (.bool true) ∧ Below w.heap.size w w' := by
  obtain ⟨i0, hi0, hz0, hz1, hz2⟩ := info_parts pairInfo
  have HC := hid hc
  clear hc
  unfold maxLen at hn
  go_enter Try.func5, Try.ntmps5
  go_wp2_with fail
  refine (big_any A n c _).mono ?_
  rintro e w0 ⟨rfl, rfl⟩
  by_cases hbig : (1048576 : Int) < (n : Int)
  · go_wp2_with fail
    go_ret
    exact ⟨rfl, Below.refl _ _⟩
  go_wp2_with fail
  refine (drawMerged_any A n c _ HC.out (by omega)).mono ?_
  rintro e w1 ⟨A1, c1, ms, K1, d1, qs, J1, f1, rs, rfl, ⟨hr1, hv1, hs1, hl1⟩, ⟨hk1, hu1, ht1, hm1⟩, ⟨hj1, hx1, hy1, hq1⟩, hb1⟩
  have RA := hid hr1
  have RK := hid hk1
  have RJ := hid hj1
  have FA := hid hs1.fits
  have FK := hid ht1.fits
  have FJ := hid hy1.fits
  have VK := hid hu1
  have VJ := hid hx1
  have hpl : ms.length ≤ maxLen := by unfold maxLen; omega
  have hql : qs.length ≤ maxLen := by unfold maxLen; omega
  have hjl : rs.length ≤ maxLen := by unfold maxLen; omega
  have HPL := hid hpl
  have HQL := hid hql
  have HJL := hid hjl
  have HB1 := hid hb1
  clear hr1 hk1 hv1 hu1 hs1 ht1 hj1 hx1 hy1 hpl hql hjl hb1
  have H2 : Hid (∀ W, Below w1.heap.size w1 W → Calls Try.prog 23 #[.slice A1 ms.length c1, .slice K1 qs.length d1, .slice J1 rs.length f1] W (MadeM W (mergeR ms qs rs) (mergeT ms qs rs) (mergeB ms qs rs))) :=
    fun W hW => impl_Merged A1 c1 ms K1 d1 qs J1 f1 rs W ((RA.out.below hW).more hW.size) FA.out HPL.out ((RK.out.below hW).more hW.size) FK.out HQL.out ((RJ.out.below hW).more hW.size) FJ.out HJL.out VK.out
  have H3 : Hid (∀ W, Below w1.heap.size w1 W → Calls Try.prog 24 #[.slice A1 ms.length c1, .slice K1 qs.length d1, .slice J1 rs.length f1] W (MadeM W (mergeR ms qs rs) (mergeT ms qs rs) (mergeB ms qs rs))) :=
    fun W hW => spec_Merged A1 c1 ms K1 d1 qs J1 f1 rs W ((RA.out.below hW).more hW.size) FA.out HPL.out ((RK.out.below hW).more hW.size) FK.out HQL.out ((RJ.out.below hW).more hW.size) FJ.out HJL.out
  have H9 : Hid (∀ W, Below w1.heap.size w1 W → Calls Try.prog 23 #[.slice A1 ms.length c1, .slice J1 rs.length f1, .slice K1 qs.length d1] W (MadeM W (mergeR ms rs qs) (mergeT ms rs qs) (mergeB ms rs qs))) :=
    fun W hW => impl_Merged A1 c1 ms J1 f1 rs K1 d1 qs W ((RA.out.below hW).more hW.size) FA.out HPL.out ((RJ.out.below hW).more hW.size) FJ.out HJL.out ((RK.out.below hW).more hW.size) FK.out HQL.out VJ.out
  cases hd : mergeB ms qs rs
  · obtain ⟨n1, n2⟩ := mergeR_no hd
    rw [hd, n1, n2] at H2 H3
    clear n1 n2 hd
    go_wp2_with fail
    refine (H2.out _ (Below.refl _ _)).mono ?_
    rintro e w2 ⟨A2, c2, T2, t2, rfl, ho2, _, hw2⟩
    have D2 := hid hw2
    clear ho2 hw2
    go_wp2_with fail
    refine (H3.out _ D2.out).mono ?_
    rintro e w3 ⟨A3, c3, T3, t3, rfl, ho3, _, hw3⟩
    have D3 := hid (D2.out.trans (hw3.mono D2.out.size))
    clear ho3 hw3
    go_wp2_with fail
    refine (sameMap_any A2 A3 c2 c3 [] [] w3.heap.size _ (.inl rfl) (.inl rfl) (by simp)).mono ?_
    rintro e w4 ⟨rfl, hw4⟩
    have D4 := hid (D3.out.trans ((hw4.below _).mono D3.out.size))
    clear hw4
    go_wp2_with fail
    refine (sameTexts_same T2 T3 t2 t3 [] _ (.inl rfl) (.inl rfl) (by simp)).mono ?_
    rintro e w5 ⟨rfl, hw5⟩
    have D5 := hid (D4.out.trans (hw5.mono D4.out.size))
    clear hw5
    go_wp2_with fail
    refine (sameMap_any A2 A3 c2 c3 [] [] w5.heap.size _ (.inl rfl) (.inl rfl) (by simp)).mono ?_
    rintro e w6 ⟨rfl, hw6⟩
    have D6 := hid (D5.out.trans ((hw6.below _).mono D5.out.size))
    clear hw6
    go_wp2_with fail
    refine (sameTexts_same T2 T3 t2 t3 [] _ (.inl rfl) (.inl rfl) (by simp)).mono ?_
    rintro e w7 ⟨rfl, hw7⟩
    have D7 := hid (D6.out.trans (hw7.mono D6.out.size))
    clear hw7
    go_wp2_with fail
    go_ret
    exact ⟨rfl, HB1.out.trans (D7.out.mono HB1.out.size)⟩
  obtain ⟨g1, g2, g3, g4, g5, g6, FLK, FTL, FTN, hul⟩ := merge_facts hd
  rw [hd, g4, g5] at H2 H3
  have FLK := hid FLK
  have FTL := hid FTL
  have FTN := hid FTN
  have G1 := hid g1
  have G2 := hid g2
  have G3 := hid g3
  have G6 := hid g6
  have FN := hid (small_map g6).fits
  have hnl : (mergeL ms qs rs).length ≤ maxLen := by have := (mapB_iff.1 g6).1; unfold maxLen; omega
  have HNL := hid hnl
  have hul' : (mergeU ms qs rs).length ≤ maxLen := by unfold maxLen; omega
  have HUL := hid hul'
  clear g1 g2 g3 g4 g5 g6 hd hnl hul'
  generalize mergeL ms qs rs = N at *
  generalize mergeU ms qs rs = U at *
  have hNN : decide (N = N) = true := by simp
  go_wp2_with fail
  refine (H2.out _ (Below.refl _ _)).mono ?_
  rintro e w2 ⟨A2, c2, T2, t2, rfl, ho2, hT2, hw2⟩
  have HO2 := hid ho2
  have HT2 := hid hT2
  have D2 := hid hw2
  clear ho2 hT2 hw2
  go_wp2_with fail
  refine (H3.out _ D2.out).mono ?_
  rintro e w3 ⟨A3, c3, T3, t3, rfl, ho3, hT3, hw3⟩
  have HO3 := hid ho3
  have HT3 := hid hT3
  have N3 := hid (HO2.out.below hw3)
  have U3 := hid (HT2.out.below hw3)
  have D3 := hid (D2.out.trans (hw3.mono D2.out.size))
  clear ho3 hT3 hw3
  go_wp2_with fail
  refine (sameMap_any A2 A3 c2 c3 N N _ _ N3.out.rp HO3.out.rp HNL.out).mono ?_
  rintro e w4 ⟨rfl, hw4⟩
  have N4 := hid (N3.out.below (hw4.below _))
  have U4 := hid (U3.out.below (hw4.below _))
  have V4 := hid (HT3.out.below (hw4.below _))
  have D4 := hid (D3.out.trans ((hw4.below _).mono D3.out.size))
  clear hw4
  go_wp2_with fail
  refine (sameTexts_same T2 T3 t2 t3 U _ U4.out.rt V4.out.rt HUL.out).mono ?_
  rintro e w5 ⟨rfl, hw5⟩
  have N5 := hid (N4.out.below hw5)
  have U5 := hid (U4.out.below hw5)
  have D5 := hid (D4.out.trans (hw5.mono D4.out.size))
  clear hw5
  have HM := hid (OwnP.made (w := w5) (Nat.le_refl _) #[] 0 rfl (Nat.zero_le _))
  have HBM : Hid (Below w5.heap.size w5 (w5.alloc (.cells #[] 48))) := (Below.refl _ _).alloc (Nat.le_refl _) _
  go_wp2_with (first
    | (at_builtin; clear tk2; (refine wpList_append_rp _ rfl _ _ _ rfl i0 Try.underlying24 hi0 hz0 hz1 hz2 w5.heap.size _ _ _ (ms ++ qs) rfl HN7.out HO7.out _ _ _ _ rs rfl rfl ((RJ.out.below (D5.out.trans (HB7.out.mono D5.out.size))).more (D5.out.trans (HB7.out.mono D5.out.size)).size) (by simp; omega) HB7.out.size ?_); intro A8 n8 c8 w8 hn8 hown8 hbw8; have HN8 := hid hn8; have HO8 := hid hown8; have HB8 := hid (HB7.out.trans hbw8); clear hn8 hown8 hbw8)
    | (at_builtin; clear tk1; (refine wpList_append_rp _ rfl _ _ _ rfl i0 Try.underlying24 hi0 hz0 hz1 hz2 w5.heap.size _ _ _ ([] ++ ms) rfl HN6.out HO6.out _ _ _ _ qs rfl rfl ((RK.out.below (D5.out.trans (HB6.out.mono D5.out.size))).more (D5.out.trans (HB6.out.mono D5.out.size)).size) (by simp; omega) HB6.out.size ?_); intro A7 n7 c7 w7 hn7 hown7 hbw7; have HN7 := hid hn7; have HO7 := hid hown7; have HB7 := hid (HB6.out.trans hbw7); have tk2 : Hid (1 = 1) := rfl; clear hn7 hown7 hbw7)
    | (at_builtin; (refine wpList_append_rp _ rfl _ _ _ rfl i0 Try.underlying24 hi0 hz0 hz1 hz2 w5.heap.size _ 0 0 [] rfl rfl HM.out _ _ _ _ ms rfl rfl ((RA.out.below (D5.out.trans (HBM.out.mono D5.out.size))).more (D5.out.trans (HBM.out.mono D5.out.size)).size) (by simp; omega) HBM.out.size ?_); intro A6 n6 c6 w6 hn6 hown6 hbw6; have HN6 := hid hn6; have HO6 := hid hown6; have HB6 := hid (HBM.out.trans hbw6); have tk1 : Hid (1 = 1) := rfl; clear hn6 hown6 hbw6))
  have hal : (ms ++ qs ++ rs).length ≤ 1000 := by simp; omega
  have en : n8 = (ms ++ qs ++ rs).length := HN8.out
  have N8 := hid (N5.out.below HB8.out)
  have U8 := hid (U5.out.below HB8.out)
  have D8 := hid (D5.out.trans (HB8.out.mono D5.out.size))
  have HO8 : Hid (OwnP w8 w5.heap.size A8 c8 (ms ++ qs ++ rs)) := HO8.out
  clear HN8 HO7 HO6 HN7 HN6 HM HBM
  generalize ms ++ qs ++ rs = AL at *
  subst en
  go_loopw [13] (fun i wr => ∃ k : Nat, k ≤ AL.length ∧ i = .int .i64 k ∧ Hid (Below w8.heap.size w8 wr)) (fun i _ => AL.length - (intOf i).toNat)
  case atStart => exact ⟨0, Nat.zero_le _, rfl, Below.refl _ _⟩
  case round =>
    obtain ⟨i, hi, rfl, HD⟩ := hrel
    have DW := hid (D8.out.trans (HD.out.mono D8.out.size))
    by_cases hlt : i < AL.length
    · obtain ⟨b, off, rfl, hb, hc1, hc2⟩ := (HO8.out.rp.below HD.out).at_ hlt
      have e5 : (0 : Int) ≤ (i : Int) := by omega
      have e6 : (i : Int) < (AL.length : Int) := by omega
      obtain ⟨k, hk⟩ : ∃ k, k = AL[i].1 := ⟨_, rfl⟩
      rw [← hk] at hc1
      clear hk hc2
      have HG1 : Hid (∀ W, Below wr.heap.size wr W → Calls Try.prog 26 #[.slice A1 ms.length c1, .string k] W fun e w' => e = .returned (.tuple #[.string (look ms k).1, .bool (look ms k).2]) ∧ Below W.heap.size W w') := by
        intro W hW
        have hB := DW.out.trans (hW.mono DW.out.size)
        have h := impl_Get A1 c1 ms k W ((RA.out.below hB).more hB.size) FA.out HPL.out
        rwa [(get_look G1.out k).1, (get_look G1.out k).2] at h
      have HG2 : Hid (∀ W, Below wr.heap.size wr W → Calls Try.prog 26 #[.slice K1 qs.length d1, .string k] W fun e w' => e = .returned (.tuple #[.string (look qs k).1, .bool (look qs k).2]) ∧ Below W.heap.size W w') := by
        intro W hW
        have hB := DW.out.trans (hW.mono DW.out.size)
        have h := impl_Get K1 d1 qs k W ((RK.out.below hB).more hB.size) FK.out HQL.out
        rwa [(get_look G2.out k).1, (get_look G2.out k).2] at h
      have HG3 : Hid (∀ W, Below wr.heap.size wr W → Calls Try.prog 26 #[.slice J1 rs.length f1, .string k] W fun e w' => e = .returned (.tuple #[.string (look rs k).1, .bool (look rs k).2]) ∧ Below W.heap.size W w') := by
        intro W hW
        have hB := DW.out.trans (hW.mono DW.out.size)
        have h := impl_Get J1 f1 rs k W ((RJ.out.below hB).more hB.size) FJ.out HJL.out
        rwa [(get_look G3.out k).1, (get_look G3.out k).2] at h
      have HG4 : Hid (∀ W, Below wr.heap.size wr W → Calls Try.prog 26 #[.slice A2 N.length c2, .string k] W fun e w' => e = .returned (.tuple #[.string (look N k).1, .bool (look N k).2]) ∧ Below W.heap.size W w') := by
        intro W hW
        have hB := HD.out.trans (hW.mono HD.out.size)
        have h := impl_Get A2 c2 N k W ((N8.out.rp.below hB).more hB.size) FN.out HNL.out
        rwa [(get_look G6.out k).1, (get_look G6.out k).2] at h
      have F1 := hid (FLK.out k)
      have F2 := hid (FTL.out k)
      generalize look ms k = lo at HG1 F1 F2
      generalize look qs k = lx at HG2 F1 F2
      generalize look rs k = ly at HG3 F1 F2
      generalize look N k = lz at HG4 F1
      obtain ⟨o, ho⟩ := lo
      obtain ⟨x, hx⟩ := lx
      obtain ⟨y, hy⟩ := ly
      obtain ⟨z, hz⟩ := lz
      go_wp2_with fail
      refine (HG1.out _ (Below.refl _ _)).mono ?_
      rintro e w9 ⟨rfl, hw9⟩
      have E9 := hid hw9
      clear hw9
      go_wp2_with fail
      refine (HG2.out _ E9.out).mono ?_
      rintro e w10 ⟨rfl, hw10⟩
      have E10 := hid (E9.out.trans (hw10.mono E9.out.size))
      clear hw10
      go_wp2_with fail
      refine (HG3.out _ E10.out).mono ?_
      rintro e w11 ⟨rfl, hw11⟩
      have E11 := hid (E10.out.trans (hw11.mono E10.out.size))
      clear hw11
      go_wp2_with fail
      refine (HG4.out _ E11.out).mono ?_
      rintro e w12 ⟨rfl, hw12⟩
      have E12 := hid (E11.out.trans (hw12.mono E11.out.size))
      clear hw12
      have U12 := hid ((U8.out.below HD.out).below E12.out)
      clear HG1 HG2 HG3 HG4 hc1
      obtain ⟨tt, htt⟩ : ∃ tt, tt = toldB U k := ⟨_, rfl⟩
      have HTT := hid htt
      clear htt
      rcases three x o hx ho with ⟨e1, e2⟩ | ⟨e1, e2⟩ | e1
      · have R1 := eqS_true e1
        have R2 := beq_yes e2
        have E1 : Hid ((x, hx) = (o, ho)) := by rw [Hid, e1, e2]
        clear e1 e2
        go_upto_region 21 with fail
        go_cut [25] from 94 to 199 (fun sb wc => sb = .bool tt ∧ w12 = wc)
        case first =>
          have HTB : Hid (toldB U k = false) := told_no fun h => (F2.out.1 h).1 E1.out
          obtain ht : tt = _ := HTT.out.trans HTB.out
          subst ht
          go_wp2_with fail
          go_meet
          case rel => exact ⟨rfl, rfl⟩
        case rest =>
          obtain ⟨rfl, rfl⟩ := hcut
          clear R1
          have HZ : (z, hz) = (y, hy) := by rw [F1.out, if_pos E1.out]
          obtain ⟨rfl, rfl⟩ : z = y ∧ hz = hy := ⟨congrArg Prod.fst HZ, congrArg Prod.snd HZ⟩
          clear HZ
          have Q1 : (z.toList == z.toList) = true := by simp
          have Q2 : (hz == hz) = true := by simp
          have Q3 : (hz != hz) = false := by simp
          have Q4 : (tt != tt) = false := by simp
          go_wp2_with fail
          go_loopw [26, 27] (fun t j wi => ∃ (u : Nat) (tb : Bool), u ≤ U.length ∧ j = .int .i64 u ∧ t = .bool tb ∧ Hid (tb = toldB (U.take u) k) ∧ Hid (Below w12.heap.size w12 wi)) (fun _ j _ => U.length - (intOf j).toNat)
          case atStart => exact ⟨0, false, Nat.zero_le _, rfl, rfl, rfl, Below.refl _ _⟩
          case round =>
            obtain ⟨u, tb, hu, rfl, rfl, HT, HI⟩ := hrel
            by_cases hlu : u < U.length
            · have HTS := hid (told_succ k hlu)
              cases tb
              · obtain ⟨b2, off2, rfl, hb2, hcu⟩ := (U12.out.rt.below HI.out).at_ hlu
                have e7 : (0 : Int) ≤ (u : Int) := by omega
                have e8 : (u : Int) < (U.length : Int) := by omega
                by_cases hq : U[u] = k
                · have q := eqS_true hq
                  have HE : Hid (true = toldB (U.take (u + 1)) k) := by rw [Hid, HTS.out]; simp [hq]
                  clear hq
                  go_wp2_with fail
                  go_roundw
                  case rel => exact ⟨u + 1, _, by omega, by go_num, rfl, HE.out, HI.out⟩
                  case measure => simp [intOf]; omega
                · have q := eqS_false hq
                  have HE : Hid (false = toldB (U.take (u + 1)) k) := by rw [Hid, HTS.out, ← HT.out]; simp [hq]
                  clear hq
                  go_wp2_with fail
                  go_roundw
                  case rel => exact ⟨u + 1, _, by omega, by go_num, rfl, HE.out, HI.out⟩
                  case measure => simp [intOf]; omega
              · have HE : Hid (true = toldB (U.take (u + 1)) k) := by rw [Hid, HTS.out, ← HT.out]; rfl
                go_wp2_with fail
                go_roundw
                case rel => exact ⟨u + 1, _, by omega, by go_num, rfl, HE.out, HI.out⟩
                case measure => simp [intOf]; omega
            · obtain rfl : u = U.length := by omega
              rw [List.take_length, ← HTT.out] at HT
              have et := HT.out
              subst et
              go_wp2_with fail
              go_roundw
              case rel => exact ⟨i + 1, by omega, by go_num, HD.out.trans ((E12.out.trans (HI.out.mono E12.out.size)).mono HD.out.size)⟩
              case measure => simp [intOf]; omega
      · have R1 := eqS_true e1
        have R2 := beq_no e2
        have N1 : Hid ((x, hx) ≠ (o, ho)) := ne_snd e2
        clear e1 e2
        go_upto_region 21 with fail
        go_cut [25] from 94 to 199 (fun sb wc => sb = .bool tt ∧ w12 = wc)
        case first =>
          rcases three y o hy ho with ⟨e1, e2⟩ | ⟨e1, e2⟩ | e1
          · have R3 := eqS_true e1
            have R4 := beq_yes e2
            have HTB : Hid (toldB U k = false) := told_no fun h => (F2.out.1 h).2.1 (by rw [e1, e2])
            clear e1 e2
            obtain ht : tt = _ := HTT.out.trans HTB.out
            subst ht
            go_wp2_with fail
            go_meet
            case rel => exact ⟨rfl, rfl⟩
          · have R3 := eqS_true e1
            have R4 := beq_no e2
            have N2 : Hid ((y, hy) ≠ (o, ho)) := ne_snd e2
            clear e1 e2
            rcases three x y hx hy with ⟨e1, e2⟩ | ⟨e1, e2⟩ | e1
            · have R5 := eqS_true e1
              have R6 := beq_yes e2
              have HTB : Hid (toldB U k = false) := told_no fun h => (F2.out.1 h).2.2 (by rw [e1, e2])
              clear e1 e2
              obtain ht : tt = _ := HTT.out.trans HTB.out
              subst ht
              go_wp2_with fail
              go_meet
              case rel => exact ⟨rfl, rfl⟩
            · have R5 := eqS_true e1
              have R6 := beq_no e2
              have N3 : Hid ((x, hx) ≠ (y, hy)) := ne_snd e2
              clear e1 e2
              have HTB : Hid (toldB U k = true) := told_yes (F2.out.2 ⟨N1.out, N2.out, N3.out⟩)
              obtain ht : tt = _ := HTT.out.trans HTB.out
              subst ht
              go_wp2_with fail
              go_meet
              case rel => exact ⟨rfl, rfl⟩
            · have R5 := eqS_false e1
              have N3 : Hid ((x, hx) ≠ (y, hy)) := ne_fst e1
              clear e1
              have HTB : Hid (toldB U k = true) := told_yes (F2.out.2 ⟨N1.out, N2.out, N3.out⟩)
              obtain ht : tt = _ := HTT.out.trans HTB.out
              subst ht
              go_wp2_with fail
              go_meet
              case rel => exact ⟨rfl, rfl⟩
          · have R3 := eqS_false e1
            have N2 : Hid ((y, hy) ≠ (o, ho)) := ne_fst e1
            clear e1
            rcases three x y hx hy with ⟨e1, e2⟩ | ⟨e1, e2⟩ | e1
            · have R5 := eqS_true e1
              have R6 := beq_yes e2
              have HTB : Hid (toldB U k = false) := told_no fun h => (F2.out.1 h).2.2 (by rw [e1, e2])
              clear e1 e2
              obtain ht : tt = _ := HTT.out.trans HTB.out
              subst ht
              go_wp2_with fail
              go_meet
              case rel => exact ⟨rfl, rfl⟩
            · have R5 := eqS_true e1
              have R6 := beq_no e2
              have N3 : Hid ((x, hx) ≠ (y, hy)) := ne_snd e2
              clear e1 e2
              have HTB : Hid (toldB U k = true) := told_yes (F2.out.2 ⟨N1.out, N2.out, N3.out⟩)
              obtain ht : tt = _ := HTT.out.trans HTB.out
              subst ht
              go_wp2_with fail
              go_meet
              case rel => exact ⟨rfl, rfl⟩
            · have R5 := eqS_false e1
              have N3 : Hid ((x, hx) ≠ (y, hy)) := ne_fst e1
              clear e1
              have HTB : Hid (toldB U k = true) := told_yes (F2.out.2 ⟨N1.out, N2.out, N3.out⟩)
              obtain ht : tt = _ := HTT.out.trans HTB.out
              subst ht
              go_wp2_with fail
              go_meet
              case rel => exact ⟨rfl, rfl⟩
        case rest =>
          obtain ⟨rfl, rfl⟩ := hcut
          clear R1
          have HZ : (z, hz) = (x, hx) := by rw [F1.out, if_neg N1.out]
          obtain ⟨rfl, rfl⟩ : z = x ∧ hz = hx := ⟨congrArg Prod.fst HZ, congrArg Prod.snd HZ⟩
          clear HZ
          have Q1 : (z.toList == z.toList) = true := by simp
          have Q2 : (hz == hz) = true := by simp
          have Q3 : (hz != hz) = false := by simp
          have Q4 : (tt != tt) = false := by simp
          go_wp2_with fail
          go_loopw [26, 27] (fun t j wi => ∃ (u : Nat) (tb : Bool), u ≤ U.length ∧ j = .int .i64 u ∧ t = .bool tb ∧ Hid (tb = toldB (U.take u) k) ∧ Hid (Below w12.heap.size w12 wi)) (fun _ j _ => U.length - (intOf j).toNat)
          case atStart => exact ⟨0, false, Nat.zero_le _, rfl, rfl, rfl, Below.refl _ _⟩
          case round =>
            obtain ⟨u, tb, hu, rfl, rfl, HT, HI⟩ := hrel
            by_cases hlu : u < U.length
            · have HTS := hid (told_succ k hlu)
              cases tb
              · obtain ⟨b2, off2, rfl, hb2, hcu⟩ := (U12.out.rt.below HI.out).at_ hlu
                have e7 : (0 : Int) ≤ (u : Int) := by omega
                have e8 : (u : Int) < (U.length : Int) := by omega
                by_cases hq : U[u] = k
                · have q := eqS_true hq
                  have HE : Hid (true = toldB (U.take (u + 1)) k) := by rw [Hid, HTS.out]; simp [hq]
                  clear hq
                  go_wp2_with fail
                  go_roundw
                  case rel => exact ⟨u + 1, _, by omega, by go_num, rfl, HE.out, HI.out⟩
                  case measure => simp [intOf]; omega
                · have q := eqS_false hq
                  have HE : Hid (false = toldB (U.take (u + 1)) k) := by rw [Hid, HTS.out, ← HT.out]; simp [hq]
                  clear hq
                  go_wp2_with fail
                  go_roundw
                  case rel => exact ⟨u + 1, _, by omega, by go_num, rfl, HE.out, HI.out⟩
                  case measure => simp [intOf]; omega
              · have HE : Hid (true = toldB (U.take (u + 1)) k) := by rw [Hid, HTS.out, ← HT.out]; rfl
                go_wp2_with fail
                go_roundw
                case rel => exact ⟨u + 1, _, by omega, by go_num, rfl, HE.out, HI.out⟩
                case measure => simp [intOf]; omega
            · obtain rfl : u = U.length := by omega
              rw [List.take_length, ← HTT.out] at HT
              have et := HT.out
              subst et
              go_wp2_with fail
              go_roundw
              case rel => exact ⟨i + 1, by omega, by go_num, HD.out.trans ((E12.out.trans (HI.out.mono E12.out.size)).mono HD.out.size)⟩
              case measure => simp [intOf]; omega
      · have R1 := eqS_false e1
        have N1 : Hid ((x, hx) ≠ (o, ho)) := ne_fst e1
        clear e1
        go_upto_region 21 with fail
        go_cut [25] from 94 to 199 (fun sb wc => sb = .bool tt ∧ w12 = wc)
        case first =>
          rcases three y o hy ho with ⟨e1, e2⟩ | ⟨e1, e2⟩ | e1
          · have R3 := eqS_true e1
            have R4 := beq_yes e2
            have HTB : Hid (toldB U k = false) := told_no fun h => (F2.out.1 h).2.1 (by rw [e1, e2])
            clear e1 e2
            obtain ht : tt = _ := HTT.out.trans HTB.out
            subst ht
            go_wp2_with fail
            go_meet
            case rel => exact ⟨rfl, rfl⟩
          · have R3 := eqS_true e1
            have R4 := beq_no e2
            have N2 : Hid ((y, hy) ≠ (o, ho)) := ne_snd e2
            clear e1 e2
            rcases three x y hx hy with ⟨e1, e2⟩ | ⟨e1, e2⟩ | e1
            · have R5 := eqS_true e1
              have R6 := beq_yes e2
              have HTB : Hid (toldB U k = false) := told_no fun h => (F2.out.1 h).2.2 (by rw [e1, e2])
              clear e1 e2
              obtain ht : tt = _ := HTT.out.trans HTB.out
              subst ht
              go_wp2_with fail
              go_meet
              case rel => exact ⟨rfl, rfl⟩
            · have R5 := eqS_true e1
              have R6 := beq_no e2
              have N3 : Hid ((x, hx) ≠ (y, hy)) := ne_snd e2
              clear e1 e2
              have HTB : Hid (toldB U k = true) := told_yes (F2.out.2 ⟨N1.out, N2.out, N3.out⟩)
              obtain ht : tt = _ := HTT.out.trans HTB.out
              subst ht
              go_wp2_with fail
              go_meet
              case rel => exact ⟨rfl, rfl⟩
            · have R5 := eqS_false e1
              have N3 : Hid ((x, hx) ≠ (y, hy)) := ne_fst e1
              clear e1
              have HTB : Hid (toldB U k = true) := told_yes (F2.out.2 ⟨N1.out, N2.out, N3.out⟩)
              obtain ht : tt = _ := HTT.out.trans HTB.out
              subst ht
              go_wp2_with fail
              go_meet
              case rel => exact ⟨rfl, rfl⟩
          · have R3 := eqS_false e1
            have N2 : Hid ((y, hy) ≠ (o, ho)) := ne_fst e1
            clear e1
            rcases three x y hx hy with ⟨e1, e2⟩ | ⟨e1, e2⟩ | e1
            · have R5 := eqS_true e1
              have R6 := beq_yes e2
              have HTB : Hid (toldB U k = false) := told_no fun h => (F2.out.1 h).2.2 (by rw [e1, e2])
              clear e1 e2
              obtain ht : tt = _ := HTT.out.trans HTB.out
              subst ht
              go_wp2_with fail
              go_meet
              case rel => exact ⟨rfl, rfl⟩
            · have R5 := eqS_true e1
              have R6 := beq_no e2
              have N3 : Hid ((x, hx) ≠ (y, hy)) := ne_snd e2
              clear e1 e2
              have HTB : Hid (toldB U k = true) := told_yes (F2.out.2 ⟨N1.out, N2.out, N3.out⟩)
              obtain ht : tt = _ := HTT.out.trans HTB.out
              subst ht
              go_wp2_with fail
              go_meet
              case rel => exact ⟨rfl, rfl⟩
            · have R5 := eqS_false e1
              have N3 : Hid ((x, hx) ≠ (y, hy)) := ne_fst e1
              clear e1
              have HTB : Hid (toldB U k = true) := told_yes (F2.out.2 ⟨N1.out, N2.out, N3.out⟩)
              obtain ht : tt = _ := HTT.out.trans HTB.out
              subst ht
              go_wp2_with fail
              go_meet
              case rel => exact ⟨rfl, rfl⟩
        case rest =>
          obtain ⟨rfl, rfl⟩ := hcut
          clear R1
          have HZ : (z, hz) = (x, hx) := by rw [F1.out, if_neg N1.out]
          obtain ⟨rfl, rfl⟩ : z = x ∧ hz = hx := ⟨congrArg Prod.fst HZ, congrArg Prod.snd HZ⟩
          clear HZ
          have Q1 : (z.toList == z.toList) = true := by simp
          have Q2 : (hz == hz) = true := by simp
          have Q3 : (hz != hz) = false := by simp
          have Q4 : (tt != tt) = false := by simp
          go_wp2_with fail
          go_loopw [26, 27] (fun t j wi => ∃ (u : Nat) (tb : Bool), u ≤ U.length ∧ j = .int .i64 u ∧ t = .bool tb ∧ Hid (tb = toldB (U.take u) k) ∧ Hid (Below w12.heap.size w12 wi)) (fun _ j _ => U.length - (intOf j).toNat)
          case atStart => exact ⟨0, false, Nat.zero_le _, rfl, rfl, rfl, Below.refl _ _⟩
          case round =>
            obtain ⟨u, tb, hu, rfl, rfl, HT, HI⟩ := hrel
            by_cases hlu : u < U.length
            · have HTS := hid (told_succ k hlu)
              cases tb
              · obtain ⟨b2, off2, rfl, hb2, hcu⟩ := (U12.out.rt.below HI.out).at_ hlu
                have e7 : (0 : Int) ≤ (u : Int) := by omega
                have e8 : (u : Int) < (U.length : Int) := by omega
                by_cases hq : U[u] = k
                · have q := eqS_true hq
                  have HE : Hid (true = toldB (U.take (u + 1)) k) := by rw [Hid, HTS.out]; simp [hq]
                  clear hq
                  go_wp2_with fail
                  go_roundw
                  case rel => exact ⟨u + 1, _, by omega, by go_num, rfl, HE.out, HI.out⟩
                  case measure => simp [intOf]; omega
                · have q := eqS_false hq
                  have HE : Hid (false = toldB (U.take (u + 1)) k) := by rw [Hid, HTS.out, ← HT.out]; simp [hq]
                  clear hq
                  go_wp2_with fail
                  go_roundw
                  case rel => exact ⟨u + 1, _, by omega, by go_num, rfl, HE.out, HI.out⟩
                  case measure => simp [intOf]; omega
              · have HE : Hid (true = toldB (U.take (u + 1)) k) := by rw [Hid, HTS.out, ← HT.out]; rfl
                go_wp2_with fail
                go_roundw
                case rel => exact ⟨u + 1, _, by omega, by go_num, rfl, HE.out, HI.out⟩
                case measure => simp [intOf]; omega
            · obtain rfl : u = U.length := by omega
              rw [List.take_length, ← HTT.out] at HT
              have et := HT.out
              subst et
              go_wp2_with fail
              go_roundw
              case rel => exact ⟨i + 1, by omega, by go_num, HD.out.trans ((E12.out.trans (HI.out.mono E12.out.size)).mono HD.out.size)⟩
              case measure => simp [intOf]; omega
    · obtain rfl : i = AL.length := by omega
      by_cases hU : U = []
      rotate_left
      · go_wp2_with fail
        refine (H9.out _ DW.out).mono ?_
        rintro e w13 ⟨A13, c13, T13, t13, rfl, _, _, hw13⟩
        have D13 := hid (DW.out.trans (hw13.mono DW.out.size))
        clear hw13
        have hU1 : ((U.length : Int) > 0) = True := by simp; exact List.length_pos_iff.2 hU
        have hU2 : decide ((U.length : Int) > 0) = true := by rw [decide_eq_true_eq]; have := List.length_pos_iff.2 hU; omega
        have hU3 : (0 : Int) < (U.length : Int) := by have := List.length_pos_iff.2 hU; omega
        have hU4 : 0 < U.length := List.length_pos_iff.2 hU
        go_wp2_with fail
        all_goals first | (exfalso; contradiction) | (exfalso; omega) | skip
        go_ret
        exact ⟨rfl, HB1.out.trans (D13.out.mono HB1.out.size)⟩
      · have hU0 := hU
        obtain ⟨b1, b2, b3⟩ := FTN.out hU0
        rw [b1, b2, b3] at H9
        clear b1 b2 b3 hU0
        have N9 := hid (N8.out.below HD.out)
        go_wp2_with fail
        refine (H9.out _ DW.out).mono ?_
        rintro e w13 ⟨A13, c13, T13, t13, rfl, ho13, _, hw13⟩
        have O13 := hid ho13
        have N13 := hid (N9.out.below hw13)
        have D13 := hid (DW.out.trans (hw13.mono DW.out.size))
        clear ho13 hw13
        go_wp2_with fail
        refine (sameMap_any A13 A2 c13 c2 N N _ _ O13.out.rp N13.out.rp HNL.out).mono ?_
        rintro e w14 ⟨rfl, hw14⟩
        have D14 := hid (D13.out.trans ((hw14.below _).mono D13.out.size))
        clear hw14
        go_wp2_with fail
        go_ret
        exact ⟨rfl, HB1.out.trans (D14.out.mono HB1.out.size)⟩
end Go.Proofs.Ytoipcjdpfbgghab
namespace Go.Proofs.Ytoipcjdpfbgghab
open Go.ChangeShapes Go.WideShapes Go.ChangeAt Go.RowKit

set_option maxRecDepth 100000 in
theorem merged_lifted (os : Os) (started : os.Started) (H : Type) (enc : TypeId × Value → H) :
    ReturnsInHanded {} Try.checked os 5 .any (Rows.fnMergedSpec.pre6 enc Try.prog Try.f5 Rows.fnMergedRow.domain false) (Rows.fnMergedSpec.post enc Try.prog Try.f5 false true false false) := by
  refine returnsInHanded_of_change (C := Try.checked) own started (by kernel_rfl) Try.func5
    (ChangeSpec.witness6 (enc := enc) (C := Try.checked) false ⟨#[], #[.slice none 0 0], []⟩ 8 (by kernel_rfl) (by kernel_rfl) (by kernel_rfl) (by kernel_rfl)) ?_
  intro W base args ds gs before hval hW _ _
  have hW' := hW
  obtain ⟨p, q, hA0, hV, rfl, hfz, hnd⟩ := hW
  have hA : DataW.TrodAll enc Try.prog W 0 (fun _ => true) true Try.f5.params.toList args.toList ds p := hA0
  rw [Try.params5] at hA hval
  obtain ⟨v0, vs0, d0, ds0, p0, q0, hargs, rfl, rfl, h0, r0⟩ := trodAll_cons hA
  obtain ⟨rfl, rfl, rfl⟩ := trodAll_nil r0
  obtain rfl : args = #[v0] := by cases args; simp_all
  clear hargs
  obtain ⟨A0, n0, c0, rfl, cb0, nn0⟩ := open_code (hval 0 22 v0 rfl rfl) h0
  refine (fnMerged_walk A0 n0 c0 W cb0 nn0).mono fun e W' ⟨he, hw⟩ => ?_
  subst he
  exact ⟨_, rfl, law_post (tb := 4) laidOut (by kernel_rfl) rfl hW' Try.underlying4 (by kernel_rfl) (fun gs' e => by subst e; rfl) hw⟩

theorem merged_holds : Rows.FnMergedSaid :=
  OpenClaim.holds_of_wide 5 Try.f5 rfl rfl rfl rfl rfl rfl rfl ⟨rfl, rfl, rfl, rfl, rfl⟩ rfl rfl rfl rfl rfl (by kernel_rfl) Try.func5 (by kernel_rfl)
    (of_decide_eq_true (by kernel_rfl)) (by unfold Func.isWrapper; rw [if_neg (of_decide_eq_false (by kernel_rfl))]; exact ⟨rfl, rfl⟩)
    (fun os started H enc _ => merged_lifted os started H enc)
end Go.Proofs.Ytoipcjdpfbgghab
