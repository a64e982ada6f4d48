/-
  The model's DiskOk: contract.
-/
import Derived.Test.YtaiehccpefjbfaaDskS2
namespace Go.Proofs.Ytaiehccpefjbfaa
open Go.RowKit

/-! ### the model's DiskOk -/
set_option maxHeartbeats 1000000 in
theorem spec_l10Same (A A' : Option Addr) (c c' : Nat) (ps qs : PS) (w : World) (hr : RP w w.heap.size A ps) (hr' : RP w w.heap.size A' qs) (hn : ps.length ≤ maxLen) :
    Calls Try.prog 98 #[.slice A ps.length c, .slice A' qs.length c'] w fun e w' => e = .returned (.bool (decide (ps = qs))) ∧ Drawn w w' := by
  unfold maxLen at hn
  by_cases g : ps.length = qs.length
  · have g0 : ((ps.length : Int) != (qs.length : Int)) = false := by simp [g]
    have HG := hid g
    clear g
    go_enter Try.func98, Try.ntmps98
    go_wp2_with fail
    go_loopw [5] (fun i wr => ∃ k : Nat, k ≤ ps.length ∧ i = .int .i64 k ∧ sameTo ps qs k ∧ Drawn w wr) (fun i _ => ps.length - (intOf i).toNat)
    case atStart => exact ⟨0, Nat.zero_le _, rfl, fun i h h' hi => absurd hi (by omega), Drawn.refl w⟩
    case round =>
      obtain ⟨k, hk, rfl, hst, hbw⟩ := hrel
      by_cases hlt : k < ps.length
      · have hlt2 : k < qs.length := by have := HG.out; omega
        obtain ⟨b, off, rfl, hb, hc1, hc2⟩ := (hr.below (hbw.below _)).at_ hlt
        obtain ⟨b', off', rfl, hb', hc3, hc4⟩ := (hr'.below (hbw.below _)).at_ hlt2
        have HD := hid hbw
        have HS := hid hst
        clear hbw hr hr' hst
        have e5 : (0 : Int) ≤ (k : Int) := by omega
        have e6 : (k : Int) < (ps.length : Int) := by omega
        have e7 : (k : Int) < (qs.length : Int) := by omega
        have hq := neqPairF ps[k] qs[k]
        have hm := pairGuardF
        by_cases he : ps[k] = qs[k]
        · have h3 : decide (ps[k] = qs[k]) = true := by simp [he]
          have HE := hid he
          clear he
          rw [h3] at hq
          clear h3
          go_wp2_with fail
          go_quiet (fail)
          go_wp2_with fail
          go_roundw
          case rel => exact ⟨k + 1, by omega, by go_num, sameTo_succ HS.out hlt hlt2 HE.out, HD.out.drewN _⟩
          case measure => simp [intOf]; omega
        · have h3 : decide (ps[k] = qs[k]) = false := by simp [he]
          have HE := hid he
          clear he
          rw [h3] at hq
          clear h3
          go_wp2_with fail
          go_quiet (fail)
          go_wp2_with fail
          go_ret
          exact ⟨ret_bool (by rw [same_no hlt hlt2 HE.out]), HD.out.drewN _⟩
      · obtain rfl : k = ps.length := by omega
        have HS := hid (sameTo_end hst HG.out)
        have HD := hid hbw
        clear hbw hr hr' hst
        go_wp2_with fail
        go_ret
        exact ⟨ret_bool (by rw [decide_eq_true HS.out]), HD.out⟩
  · have g0 : ((ps.length : Int) != (qs.length : Int)) = true := by simp; omega
    have HE : Hid (decide (ps = qs) = false) := by
      rw [Hid, decide_eq_false_iff_not]
      exact fun e => g (by rw [e])
    clear g hr hr'
    go_enter Try.func98, Try.ntmps98
    go_wp2_with fail
    go_ret
    exact ⟨ret_bool HE.out.symm, Drawn.refl _⟩


def diskD (D : DK) : Bool := diskB D.live D.safe D.ops
theorem diskD_live {D : DK} (h : filesB D.live = false) : diskD D = false := by
  cases hd : diskD D
  · rfl
  · rw [diskB_live hd] at h
    cases h
theorem diskD_safe {D : DK} (h : filesB D.safe = false) : diskD D = false := by simp [diskD, diskB, h]
theorem diskD_ops {D : DK} (h : ¬ D.ops.length ≤ 200) : diskD D = false := by simp [diskD, diskB, h]
theorem diskD_none {D : DK} (h : playD D.safe D.ops = none) : diskD D = false := by simp [diskD, diskB, h]
theorem diskD_end {D : DK} {m : PS} (h1 : filesB D.safe = true) (h2 : D.ops.length ≤ 200) (h : playD D.safe D.ops = some m) : diskD D = decide (m = D.live) := by simp [diskD, diskB, h, h1, h2]
theorem play_no {S m : PS} {ops : DS} {k : Nat} (hp : playD S ops = playD m (ops.drop k)) (hk : k < ops.length) (h : formB ops[k] = false ∨ (onD m ops[k]).2 = false ∨ fitB (onD m ops[k]).1 = false) : playD S ops = none := by
  rw [hp, playD_drop hk, if_neg]
  rcases h with h | h | h <;> simp [h]
theorem play_yes {S m : PS} {ops : DS} {k : Nat} (hp : playD S ops = playD m (ops.drop k)) (hk : k < ops.length) (h1 : formB ops[k] = true) (h2 : (onD m ops[k]).2 = true) (h3 : fitB (onD m ops[k]).1 = true) : playD S ops = playD (onD m ops[k]).1 (ops.drop (k + 1)) := by
  rw [hp, playD_drop hk, if_pos (by simp [h1, h2, h3])]

set_option maxHeartbeats 4000000 in
set_option maxRecDepth 100000 in
theorem spec_DiskOk (V : DV) (D : DK) (w : World) (hr : RK w w.heap.size V D) (hn : LenK D 2000000) (hs : SmallK D 4000000) :
    Calls Try.prog 47 #[.agg #[.slice V.A D.live.length V.c, .slice V.K D.safe.length V.d, .slice V.O D.ops.length V.o]] w fun e w' => e = .returned (.bool (diskD D)) ∧ Below w.heap.size w w' := by
  have hb0 : Below w.heap.size w (w.alloc (.cells #[.slice V.A D.live.length V.c, .slice V.K D.safe.length V.d, .slice V.O D.ops.length V.o] 33)) := (Below.refl _ _).alloc (Nat.le_refl _) _
  have hx0 := Row3.lit w 33 (.slice V.A D.live.length V.c) (.slice V.K D.safe.length V.d) (.slice V.O D.ops.length V.o)
  have HB := hid hb0
  have X := hid hx0
  have HR := hid ((hr.below hb0).more hb0.size)
  have HN := hid (hn.more (by decide : 2000000 ≤ maxLen))
  have HM := hid hn
  have HS1 := hid (hs.1.more (by decide : 4000000 ≤ 1000000000))
  have HS2 := hid (hs.2.1.more (by decide : 4000000 ≤ 1000000000))
  have HS3 : Hid (∀ x ∈ D.ops, SmallX x 4000000) := hs.2.2
  have hl3 := hn.2.2
  clear hr hn hs hb0 hx0
  cases h1 : filesB D.live
  · have HE := hid (diskD_live h1)
    go_enter Try.func47, Try.ntmps47
    go_wp2_with fail
    generalize hgq : w.alloc (.cells #[.slice V.A D.live.length V.c, .slice V.K D.safe.length V.d, .slice V.O D.ops.length V.o] 33) = w0 at *
    clear hgq
    refine (spec_l10Files V.A V.c D.live w0.heap.size _ HR.out.1 HS1.out HN.out.1).mono ?_
    rintro e w1 ⟨rfl, hd1⟩
    have HB1 := hid (hd1.below w0.heap.size)
    clear hd1
    have x0 := (X.out.below HB1.out).c0
    go_wp2_with fail
    go_ret
    exact ⟨ret_bool HE.out.symm, HB.out.trans (HB1.out.mono HB.out.size)⟩
  cases h2 : filesB D.safe
  · have HE := hid (diskD_safe h2)
    go_enter Try.func47, Try.ntmps47
    go_wp2_with fail
    generalize hgq : w.alloc (.cells #[.slice V.A D.live.length V.c, .slice V.K D.safe.length V.d, .slice V.O D.ops.length V.o] 33) = w0 at *
    clear hgq
    refine (spec_l10Files V.A V.c D.live w0.heap.size _ HR.out.1 HS1.out HN.out.1).mono ?_
    rintro e w1 ⟨rfl, hd1⟩
    have HB1 := hid (hd1.below w0.heap.size)
    clear hd1
    have x1 := (X.out.below HB1.out).c1
    go_wp2_with fail
    refine (spec_l10Files V.K V.d D.safe w1.heap.size _ ((HR.out.2.1.below HB1.out).more HB1.out.size) HS2.out HN.out.2.1).mono ?_
    rintro e w2 ⟨rfl, hd2⟩
    have HB2 := hid (HB1.out.trans ((hd2.below w1.heap.size).mono HB1.out.size))
    clear hd2
    go_wp2_with fail
    go_ret
    exact ⟨ret_bool HE.out.symm, HB.out.trans (HB2.out.mono HB.out.size)⟩
  by_cases h3 : D.ops.length ≤ 200
  · have HEN := hid (fun m => diskD_end (m := m) h2 h3)
    have HNO := hid (diskD_none (D := D))
    go_enter Try.func47, Try.ntmps47
    go_wp2_with fail
    generalize hgq : w.alloc (.cells #[.slice V.A D.live.length V.c, .slice V.K D.safe.length V.d, .slice V.O D.ops.length V.o] 33) = w0 at *
    clear hgq
    refine (spec_l10Files V.A V.c D.live w0.heap.size _ HR.out.1 HS1.out HN.out.1).mono ?_
    rintro e w1 ⟨rfl, hd1⟩
    have HB1 := hid (hd1.below w0.heap.size)
    clear hd1
    have x1 := (X.out.below HB1.out).c1
    go_wp2_with fail
    clear x1
    refine (spec_l10Files V.K V.d D.safe w1.heap.size _ ((HR.out.2.1.below HB1.out).more HB1.out.size) HS2.out HN.out.2.1).mono ?_
    rintro e w2 ⟨rfl, hd2⟩
    have HB2 := hid (HB1.out.trans ((hd2.below w1.heap.size).mono HB1.out.size))
    clear hd2
    have x1 := (X.out.below HB2.out).c1
    have x2 := (X.out.below HB2.out).c2
    go_wp2_with fail
    clear x1 x2
    have H2 := hid h2
    clear h1 h2 h3
    go_loopw [3, 4] (fun q i wr => ∃ (k n : Nat) (A : Option Addr) (c : Nat) (m : PS), k ≤ D.ops.length ∧ i = .int .i64 k ∧ q = .slice A n c ∧ n = m.length ∧ RP wr wr.heap.size A m ∧ filesB m = true ∧ playD D.safe D.ops = playD m (D.ops.drop k) ∧ Below w0.heap.size w0 wr) (fun _ i _ => D.ops.length - (intOf i).toNat)
    case atStart => exact ⟨0, _, _, _, D.safe, Nat.zero_le _, rfl, rfl, rfl, (HR.out.2.1.below HB2.out).more HB2.out.size, H2.out, rfl, HB2.out⟩
    case round =>
      obtain ⟨k, n, A, c, m, hk, rfl, rfl, hnn, hrm, hfm, hpl, hbw⟩ := hrel
      have HD := hid hbw
      have HRM := hid hrm
      have HFM := hid hfm
      have HPL := hid hpl
      have x2 := (X.out.below hbw).c2
      have hml := (fitB_iff.1 (filesB_iff.1 hfm).1).1
      have HSM := hid ((filesB_small hfm).more (by decide : 200000 ≤ 1000000000))
      subst hnn
      clear hbw hrm hfm hpl
      by_cases hlt : k < D.ops.length
      · obtain ⟨b, off, hO, hb, hc1, hc2, hc3, hc4⟩ := (HR.out.2.2.below HD.out).at_ hlt
        rw [hO] at x2
        clear hO
        have HX := hid (HS3.out _ (List.getElem_mem hlt))
        have hbb : b < wr.heap.size := Nat.lt_of_lt_of_le hb HD.out.size
        have HC : Hid (∀ w' : World, Below wr.heap.size wr w' → w'.cell? ⟨b, off + k * 4, none⟩ = some (.int .i64 D.ops[k].1) ∧ w'.cell? ⟨b, off + k * 4 + 1, none⟩ = some (.string D.ops[k].2.1) ∧ w'.cell? ⟨b, off + k * 4 + 2, none⟩ = some (.string D.ops[k].2.2.1) ∧ w'.cell? ⟨b, off + k * 4 + 3, none⟩ = some (.string D.ops[k].2.2.2)) := fun w' hw => ⟨(hw.cell (p := ⟨b, _, none⟩) hbb).trans hc1, (hw.cell (p := ⟨b, _, none⟩) hbb).trans hc2, (hw.cell (p := ⟨b, _, none⟩) hbb).trans hc3, (hw.cell (p := ⟨b, _, none⟩) hbb).trans hc4⟩
        have HX2 : Hid (∀ w' : World, Below wr.heap.size wr w' → w'.cell? ⟨w.heap.size, 2, none⟩ = some (.slice (some ⟨b, off, none⟩) D.ops.length V.o)) := by
          have hXlt := X.out.lt
          exact fun w' hw => (hw.cell (p := ⟨w.heap.size, 2, none⟩) (Nat.lt_of_lt_of_le hXlt HD.out.size)).trans x2
        go_wp2_with fail
        clear hc1 hc2 hc3 hc4 x2
        refine (spec_l10Do A c m D.ops[k] _ HRM.out (by omega) HSM.out ⟨Nat.le_trans HX.out.1 (by decide), Nat.le_trans HX.out.2.1 (by decide), Nat.le_trans HX.out.2.2 (by decide)⟩).mono ?_
        rintro e w4 ⟨A4, c4, rfl, ho4, hb4⟩
        have HR4 := hid ho4.rp
        have HB4 := hid hb4
        have HD4 := hid (HD.out.trans (hb4.mono HD.out.size))
        clear ho4 hb4
        cases g1 : (onD m D.ops[k]).2
        · have HE := hid (HNO.out (play_no HPL.out hlt (.inr (.inl g1))))
          go_wp2_with fail
          go_ret
          exact ⟨ret_bool HE.out.symm, HB.out.trans (HD4.out.mono HB.out.size)⟩
        obtain ⟨hc1, hc2, hc3, hc4⟩ := HC.out _ HB4.out
        have x2 := HX2.out _ HB4.out
        go_wp2_with fail
        clear hc1 hc2 hc3 hc4 x2
        refine (spec_l10Form D.ops[k] _ ⟨Nat.le_trans HX.out.1 (by decide), Nat.le_trans HX.out.2.1 (by decide), Nat.le_trans HX.out.2.2 (by decide)⟩).mono ?_
        rintro e w5 ⟨rfl, hb5⟩
        have HR5 := hid ((HR4.out.below hb5).more hb5.size)
        have HD5 := hid (HD4.out.trans (hb5.mono HD4.out.size))
        clear hb5
        cases g2 : formB D.ops[k]
        · have HE := hid (HNO.out (play_no HPL.out hlt (.inl g2)))
          go_wp2_with fail
          go_ret
          exact ⟨ret_bool HE.out.symm, HB.out.trans (HD5.out.mono HB.out.size)⟩
        have hol := onD_len m D.ops[k]
        have HFI := hid (onD_files HFM.out g2)
        go_wp2_with fail
        refine (spec_l10Files A4 c4 (onD m D.ops[k]).1 w5.heap.size _ HR5.out ((onD_small (filesB_small HFM.out) HX.out).more (by decide)) (by unfold maxLen; omega)).mono ?_
        rintro e w6 ⟨rfl, hd6⟩
        have HB6 := hid (hd6.below w5.heap.size)
        clear hd6
        cases g3 : filesB (onD m D.ops[k]).1
        · have HE := hid (HNO.out (play_no HPL.out hlt (.inr (.inr (by rw [← HFI.out]; exact g3)))))
          go_wp2_with fail
          go_ret
          exact ⟨ret_bool HE.out.symm, HB.out.trans ((HD5.out.trans (HB6.out.mono HD5.out.size)).mono HB.out.size)⟩
        have HPY := hid (play_yes HPL.out hlt g2 g1 (by rw [← HFI.out]; exact g3))
        have G3 := hid g3
        clear g1 g2 g3
        go_wp2_with fail
        go_roundw
        case rel => exact ⟨k + 1, _, _, _, _, by omega, by go_num, rfl, rfl, (HR5.out.below HB6.out).more HB6.out.size, G3.out, HPY.out, HD5.out.trans (HB6.out.mono HD5.out.size)⟩
        case measure => simp [intOf]; omega
      · obtain rfl : k = D.ops.length := by omega
        have HE := hid (HEN.out m (HPL.out.trans (playD_end m D.ops)))
        have x0 := (X.out.below HD.out).c0
        go_wp2_with fail
        refine (spec_l10Same A V.A c V.c m D.live _ HRM.out ((HR.out.1.below HD.out).more HD.out.size) (by unfold maxLen; omega)).mono ?_
        rintro e w4 ⟨rfl, hd4⟩
        have HB4 := hid (hd4.below wr.heap.size)
        clear hd4
        go_wp2_with fail
        go_ret
        exact ⟨ret_bool HE.out.symm, HB.out.trans ((HD.out.trans (HB4.out.mono HD.out.size)).mono HB.out.size)⟩
  · have HE := hid (diskD_ops h3)
    go_enter Try.func47, Try.ntmps47
    go_wp2_with fail
    generalize hgq : w.alloc (.cells #[.slice V.A D.live.length V.c, .slice V.K D.safe.length V.d, .slice V.O D.ops.length V.o] 33) = w0 at *
    clear hgq
    refine (spec_l10Files V.A V.c D.live w0.heap.size _ HR.out.1 HS1.out HN.out.1).mono ?_
    rintro e w1 ⟨rfl, hd1⟩
    have HB1 := hid (hd1.below w0.heap.size)
    clear hd1
    have x1 := (X.out.below HB1.out).c1
    go_wp2_with fail
    clear x1
    refine (spec_l10Files V.K V.d D.safe w1.heap.size _ ((HR.out.2.1.below HB1.out).more HB1.out.size) HS2.out HN.out.2.1).mono ?_
    rintro e w2 ⟨rfl, hd2⟩
    have HB2 := hid (HB1.out.trans ((hd2.below w1.heap.size).mono HB1.out.size))
    clear hd2
    have x2 := (X.out.below HB2.out).c2
    go_wp2_with fail
    go_ret
    exact ⟨ret_bool HE.out.symm, HB.out.trans (HB2.out.mono HB.out.size)⟩
end Go.Proofs.Ytaiehccpefjbfaa
