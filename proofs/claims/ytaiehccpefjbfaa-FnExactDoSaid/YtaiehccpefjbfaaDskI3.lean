/-
  The program's playedOn and DiskOk: contracts (tools/mkdski2.py).
-/
import Derived.Test.YtaiehccpefjbfaaDskI2
namespace Go.Proofs.Ytaiehccpefjbfaa
open Go.RowKit Go.Shelf

/-- What playedOn answers. -/
def PlayPost (q : Option PS) (w : World) (e : Ending) (w' : World) : Prop :=
  Below w.heap.size w w' ∧ ((∃ A c m, q = some m ∧ e = .returned (.tuple #[.slice A m.length c, .bool true]) ∧ RP w' w'.heap.size A m ∧ VS A c m.length) ∨ (q = none ∧ e = .returned (.tuple #[.slice none 0 0, .bool false])))
theorem play_none {q : Option PS} {w w' : World} (h : q = none) (hb : Below w.heap.size w w') : PlayPost q w (.returned (.tuple #[.slice none 0 0, .bool false])) w' := ⟨hb, .inr ⟨h, rfl⟩⟩
theorem play_some {q : Option PS} {m : PS} {w w' : World} {A : Option Addr} {c : Nat} (h : q = some m) (hb : Below w.heap.size w w') (hr : RP w' w'.heap.size A m) (hv : VS A c m.length) : PlayPost q w (.returned (.tuple #[.slice A m.length c, .bool true])) w' := ⟨hb, .inl ⟨A, c, m, h, rfl, hr, hv⟩⟩
theorem onD_ren {l : PS} {x : DD} (h : x.1 = 2) (hk : hasK l x.2.1 = true) : onD l x = (renB l x.2.1 x.2.2.1, true) := by rw [onD_2 h hk]; simp [renB, hk]
theorem onD_cut {l : PS} {x : DD} (h1 : x.1 ≠ 1) (h2 : x.1 ≠ 2) (hk : hasK l x.2.1 = true) : onD l x = (cutB l x.2.1, true) := by rw [onD_3 h1 h2 hk]; simp [cutB, hk]

set_option maxHeartbeats 8000000 in
set_option maxRecDepth 100000 in
theorem impl_playedOn (A : Option Addr) (c : Nat) (ps : PS) (K : Option Addr) (d : Nat) (ops : DS) (w : World) (hr : RP w w.heap.size A ps) (hv : VS A c ps.length) (hf : filesB ps = true) (ho : RD w w.heap.size K ops) (hs : ∀ x ∈ ops, SmallX x 4000000) (hn : ops.length ≤ 2000000) :
    Calls Try.prog 102 #[.slice A ps.length c, .slice K ops.length d] w (PlayPost (playD ps ops) w) := by
  have HR := hid hr
  have HO := hid ho
  have HV := hid hv
  have HF := hid hf
  have HS := hid hs
  clear hr ho hv hf hs
  go_enter Try.func102, Try.ntmps102
  go_wp2_with fail
  go_loopw [0, 14] (fun q i wr => ∃ (k n : Nat) (A : Option Addr) (c : Nat) (m : PS), k ≤ ops.length ∧ i = .int .i64 k ∧ q = .slice A n c ∧ n = m.length ∧ RP wr wr.heap.size A m ∧ VS A c m.length ∧ filesB m = true ∧ playD ps ops = playD m (ops.drop k) ∧ Below w.heap.size w wr) (fun _ i _ => ops.length - (intOf i).toNat)
  case atStart => exact ⟨0, _, _, _, ps, Nat.zero_le _, rfl, rfl, rfl, HR.out, HV.out, HF.out, rfl, Below.refl _ _⟩
  case round =>
    obtain ⟨k, n, A, c, m, hk, rfl, rfl, hnn, hrm, hvm, hfm, hpl, hbw⟩ := hrel
    subst hnn
    have HD := hid hbw
    have HRM := hid hrm
    have HVM := hid hvm
    have HFM := hid hfm
    have HPL := hid hpl
    have hml := (fitB_iff.1 (filesB_iff.1 hfm).1).1
    have HSM := hid (filesB_small hfm)
    have HRI := hid (filesB_iff.1 hfm).2.1
    clear hbw hrm hvm hfm hpl
    by_cases hlt : k < ops.length
    · obtain ⟨b, off, rfl, hb, hc1, hc2, hc3, hc4⟩ := (HO.out.below HD.out).at_ hlt
      have HX := hid (HS.out _ (List.getElem_mem hlt))
      have HB0 := hid (HD.out.alloc HD.out.size (.cells #[.int .i64 ops[k].1, .string ops[k].2.1, .string ops[k].2.2.1, .string ops[k].2.2.2] 37))
      have HB00 := hid ((Below.refl wr.heap.size wr).alloc (Nat.le_refl _) (.cells #[.int .i64 ops[k].1, .string ops[k].2.1, .string ops[k].2.2.1, .string ops[k].2.2.2] 37))
      go_wp2_with fail
      clear hc1 hc2 hc3 hc4
      refine (impl_opOf ops[k] _ ⟨Nat.le_trans HX.out.1 (by decide), Nat.le_trans HX.out.2.1 (by decide), Nat.le_trans HX.out.2.2 (by decide)⟩).mono ?_
      rintro e w1 ⟨v, rfl, hvv, hb1⟩
      have HB1 := hid (HB0.out.trans (hb1.mono HB0.out.size))
      have HR1 := hid ((HRM.out.below (HB00.out.trans (hb1.mono HB00.out.size))).more (Nat.le_trans HB00.out.size hb1.size))
      have HVV := hid hvv
      clear hb1 hvv
      cases g2 : formB ops[k]
      · have HE := hid (play_no HPL.out hlt (.inl g2))
        go_wp2_with fail
        go_ret2
        exact play_none HE.out HB1.out
      have hve := HVV.out g2
      have HFI := hid (onD_files HFM.out g2)
      have HSL := hid ((onD_small HSM.out HX.out).more (by decide : 200000 + 4000000 ≤ 1000000000))
      have hol := onD_len m ops[k]
      rcases form_123 g2 with h1 | h1 | h1
      · rw [ifc_1 h1] at hve
        have HON := hid (onD_1 (l := m) h1)
        subst hve
        clear h1
        go_wp2_with fail
        refine (on_appending ops[k].2.1 ops[k].2.2.2 A c m _ HR1.out HVM.out (by omega) HRI.out (HSM.out.more (by decide)) (Nat.le_trans HX.out.2.2 (by decide))).mono ?_
        rintro e w2 ⟨A2, c2, rfl, ho2, hb2⟩
        have HO2 := hid ho2
        have HB2 := hid (HB1.out.trans (hb2.mono HB1.out.size))
        clear ho2 hb2
        have hLE : (onD m ops[k]).1 = putL m ops[k].2.1 (valOf m ops[k].2.1 ++ ops[k].2.2.2) := congrArg Prod.fst HON.out
        have HSL2 : Hid (SmallP (putL m ops[k].2.1 (valOf m ops[k].2.1 ++ ops[k].2.2.2)) 1000000000) := by rw [Hid, ← hLE]; exact HSL.out
        have hLN : (putL m ops[k].2.1 (valOf m ops[k].2.1 ++ ops[k].2.2.2)).length ≤ maxLen := by rw [← hLE]; unfold maxLen; omega
        have HFI2 : Hid (filesB (putL m ops[k].2.1 (valOf m ops[k].2.1 ++ ops[k].2.2.2)) = fitB (putL m ops[k].2.1 (valOf m ops[k].2.1 ++ ops[k].2.2.2))) := by rw [Hid, ← hLE]; exact HFI.out
        have HNO : Hid (fitB (putL m ops[k].2.1 (valOf m ops[k].2.1 ++ ops[k].2.2.2)) = false → playD ps ops = none) := fun h => play_no HPL.out hlt (.inr (.inr (by rw [hLE]; exact h)))
        have HYE : Hid (fitB (putL m ops[k].2.1 (valOf m ops[k].2.1 ++ ops[k].2.2.2)) = true → playD ps ops = playD (putL m ops[k].2.1 (valOf m ops[k].2.1 ++ ops[k].2.2.2)) (ops.drop (k + 1))) := fun h => by
          rw [← hLE]
          exact play_yes HPL.out hlt g2 (congrArg Prod.snd HON.out) (by rw [hLE]; exact h)
        clear hLE
        go_wp2_with fail
        refine (impl_filesFit A2 c2 (putL m ops[k].2.1 (valOf m ops[k].2.1 ++ ops[k].2.2.2)) _ HO2.out.rp HSL2.out hLN).mono ?_
        rintro e w3 ⟨rfl, hb3⟩
        have HB3 := hid (HB2.out.trans (hb3.mono HB2.out.size))
        have HO3 := hid (HO2.out.below hb3)
        clear hb3
        cases g3 : fitB (putL m ops[k].2.1 (valOf m ops[k].2.1 ++ ops[k].2.2.2))
        · have HE := hid (HNO.out g3)
          go_wp2_with fail
          go_ret2
          exact play_none HE.out HB3.out
        · have HPY := hid (HYE.out g3)
          have G3 : Hid (filesB (putL m ops[k].2.1 (valOf m ops[k].2.1 ++ ops[k].2.2.2)) = true) := HFI2.out.trans g3
          clear g3
          go_wp2_with fail
          go_roundw
          case rel => exact ⟨k + 1, _, _, _, _, by omega, by go_num, rfl, rfl, HO3.out.rp, own_vs HO3.out, G3.out, HPY.out, HB3.out⟩
          case measure => simp [intOf]; omega
      · rw [ifc_2 h1] at hve
        subst hve
        cases gk : hasK m ops[k].2.1
        · have HE := hid (play_no HPL.out hlt (.inr (.inl (by rw [onD_no (by omega) gk]))))
          clear h1
          go_wp2_with fail
          refine (on_renaming ops[k].2.1 ops[k].2.2.1 A c m _ HR1.out HVM.out (by omega) HRI.out).mono ?_
          rintro e w2 ⟨A2, c2, rfl, ho2, hb2⟩
          have HB2 := hid (HB1.out.trans (hb2.mono HB1.out.size))
          clear ho2 hb2
          rw [gk]
          go_wp2_with fail
          go_ret2
          exact play_none HE.out HB2.out
        · have HON := hid (onD_ren h1 gk)
          clear h1
          go_wp2_with fail
          refine (on_renaming ops[k].2.1 ops[k].2.2.1 A c m _ HR1.out HVM.out (by omega) HRI.out).mono ?_
          rintro e w2 ⟨A2, c2, rfl, ho2, hb2⟩
          have HO2 := hid ho2
          have HB2 := hid (HB1.out.trans (hb2.mono HB1.out.size))
          clear ho2 hb2
          rw [gk]
          have hLE : (onD m ops[k]).1 = renB m ops[k].2.1 ops[k].2.2.1 := congrArg Prod.fst HON.out
          have HSL2 : Hid (SmallP (renB m ops[k].2.1 ops[k].2.2.1) 1000000000) := by rw [Hid, ← hLE]; exact HSL.out
          have hLN : (renB m ops[k].2.1 ops[k].2.2.1).length ≤ maxLen := by rw [← hLE]; unfold maxLen; omega
          have HFI2 : Hid (filesB (renB m ops[k].2.1 ops[k].2.2.1) = fitB (renB m ops[k].2.1 ops[k].2.2.1)) := by rw [Hid, ← hLE]; exact HFI.out
          have HNO : Hid (fitB (renB m ops[k].2.1 ops[k].2.2.1) = false → playD ps ops = none) := fun h => play_no HPL.out hlt (.inr (.inr (by rw [hLE]; exact h)))
          have HYE : Hid (fitB (renB m ops[k].2.1 ops[k].2.2.1) = true → playD ps ops = playD (renB m ops[k].2.1 ops[k].2.2.1) (ops.drop (k + 1))) := fun h => by
            rw [← hLE]
            exact play_yes HPL.out hlt g2 (congrArg Prod.snd HON.out) (by rw [hLE]; exact h)
          clear hLE
          go_wp2_with fail
          refine (impl_filesFit A2 c2 (renB m ops[k].2.1 ops[k].2.2.1) _ HO2.out.rp HSL2.out hLN).mono ?_
          rintro e w3 ⟨rfl, hb3⟩
          have HB3 := hid (HB2.out.trans (hb3.mono HB2.out.size))
          have HO3 := hid (HO2.out.below hb3)
          clear hb3
          cases g3 : fitB (renB m ops[k].2.1 ops[k].2.2.1)
          · have HE := hid (HNO.out g3)
            go_wp2_with fail
            go_ret2
            exact play_none HE.out HB3.out
          · have HPY := hid (HYE.out g3)
            have G3 : Hid (filesB (renB m ops[k].2.1 ops[k].2.2.1) = true) := HFI2.out.trans g3
            clear g3
            go_wp2_with fail
            go_roundw
            case rel => exact ⟨k + 1, _, _, _, _, by omega, by go_num, rfl, rfl, HO3.out.rp, own_vs HO3.out, G3.out, HPY.out, HB3.out⟩
            case measure => simp [intOf]; omega
      · rw [ifc_3 (by omega) (by omega)] at hve
        subst hve
        cases gk : hasK m ops[k].2.1
        · have HE := hid (play_no HPL.out hlt (.inr (.inl (by rw [onD_no (by omega) gk]))))
          clear h1
          go_wp2_with fail
          refine (on_removing ops[k].2.1 A c m _ HR1.out HVM.out (by omega) HRI.out).mono ?_
          rintro e w2 ⟨A2, c2, rfl, ho2, hb2⟩
          have HB2 := hid (HB1.out.trans (hb2.mono HB1.out.size))
          clear ho2 hb2
          rw [gk]
          go_wp2_with fail
          go_ret2
          exact play_none HE.out HB2.out
        · have HON := hid (onD_cut (by omega) (by omega) gk)
          clear h1
          go_wp2_with fail
          refine (on_removing ops[k].2.1 A c m _ HR1.out HVM.out (by omega) HRI.out).mono ?_
          rintro e w2 ⟨A2, c2, rfl, ho2, hb2⟩
          have HO2 := hid ho2
          have HB2 := hid (HB1.out.trans (hb2.mono HB1.out.size))
          clear ho2 hb2
          rw [gk]
          have hLE : (onD m ops[k]).1 = cutB m ops[k].2.1 := congrArg Prod.fst HON.out
          have HSL2 : Hid (SmallP (cutB m ops[k].2.1) 1000000000) := by rw [Hid, ← hLE]; exact HSL.out
          have hLN : (cutB m ops[k].2.1).length ≤ maxLen := by rw [← hLE]; unfold maxLen; omega
          have HFI2 : Hid (filesB (cutB m ops[k].2.1) = fitB (cutB m ops[k].2.1)) := by rw [Hid, ← hLE]; exact HFI.out
          have HNO : Hid (fitB (cutB m ops[k].2.1) = false → playD ps ops = none) := fun h => play_no HPL.out hlt (.inr (.inr (by rw [hLE]; exact h)))
          have HYE : Hid (fitB (cutB m ops[k].2.1) = true → playD ps ops = playD (cutB m ops[k].2.1) (ops.drop (k + 1))) := fun h => by
            rw [← hLE]
            exact play_yes HPL.out hlt g2 (congrArg Prod.snd HON.out) (by rw [hLE]; exact h)
          clear hLE
          go_wp2_with fail
          refine (impl_filesFit A2 c2 (cutB m ops[k].2.1) _ HO2.out.rp HSL2.out hLN).mono ?_
          rintro e w3 ⟨rfl, hb3⟩
          have HB3 := hid (HB2.out.trans (hb3.mono HB2.out.size))
          have HO3 := hid (HO2.out.below hb3)
          clear hb3
          cases g3 : fitB (cutB m ops[k].2.1)
          · have HE := hid (HNO.out g3)
            go_wp2_with fail
            go_ret2
            exact play_none HE.out HB3.out
          · have HPY := hid (HYE.out g3)
            have G3 : Hid (filesB (cutB m ops[k].2.1) = true) := HFI2.out.trans g3
            clear g3
            go_wp2_with fail
            go_roundw
            case rel => exact ⟨k + 1, _, _, _, _, by omega, by go_num, rfl, rfl, HO3.out.rp, own_vs HO3.out, G3.out, HPY.out, HB3.out⟩
            case measure => simp [intOf]; omega
    · obtain rfl : k = ops.length := by omega
      have HE := hid (HPL.out.trans (playD_end m ops))
      go_wp2_with fail
      go_ret2
      exact play_some HE.out HD.out HRM.out HVM.out

set_option maxHeartbeats 4000000 in
set_option maxRecDepth 100000 in
theorem impl_DiskOk (V : DV) (D : DK) (w : World) (hr : RK w w.heap.size V D) (hv : VSK V D) (hn : LenK D 2000000) (hs : SmallK D 4000000) :
    Calls Try.prog 51 #[.agg #[.slice V.A D.live.length V.c, .slice V.K D.safe.length V.d, .slice V.O D.ops.length V.o]] w fun e w' => e = .returned (.bool (diskD D)) ∧ Below w.heap.size w w' := by
  have hb0 : Below w.heap.size w (w.alloc (.cells #[.slice V.A D.live.length V.c, .slice V.K D.safe.length V.d, .slice V.O D.ops.length V.o] 33)) := (Below.refl _ _).alloc (Nat.le_refl _) _
  have hx0 := Row3.lit w 33 (.slice V.A D.live.length V.c) (.slice V.K D.safe.length V.d) (.slice V.O D.ops.length V.o)
  have HB := hid hb0
  have X := hid hx0
  have HR := hid ((hr.below hb0).more hb0.size)
  have HVK := hid hv
  have HN := hid (hn.more (by decide : 2000000 ≤ maxLen))
  have hl3 := hn.2.2
  have HS2 := hid (hs.2.1.more (by decide : 4000000 ≤ 1000000000))
  have HS3 : Hid (∀ x ∈ D.ops, SmallX x 4000000) := hs.2.2
  clear hr hn hs hb0 hx0 hv
  cases h2 : filesB D.safe
  · have HE := hid (diskD_safe h2)
    go_enter Try.func51, Try.ntmps51
    go_wp2_with fail
    generalize hgq : w.alloc (.cells #[.slice V.A D.live.length V.c, .slice V.K D.safe.length V.d, .slice V.O D.ops.length V.o] 33) = w0 at *
    clear hgq
    refine (impl_filesOk V.K V.d D.safe _ HR.out.2.1 HS2.out HN.out.2.1).mono ?_
    rintro e w1 ⟨rfl, hb1⟩
    have HB1 := hid hb1
    clear hb1
    go_wp2_with fail
    go_ret
    exact ⟨ret_bool HE.out.symm, HB.out.trans (HB1.out.mono HB.out.size)⟩
  by_cases h3 : D.ops.length ≤ 200
  · have HEN := hid (fun m => diskD_end (m := m) h2 h3)
    have HNO := hid (diskD_none (D := D))
    have H2 := hid h2
    go_enter Try.func51, Try.ntmps51
    go_wp2_with fail
    generalize hgq : w.alloc (.cells #[.slice V.A D.live.length V.c, .slice V.K D.safe.length V.d, .slice V.O D.ops.length V.o] 33) = w0 at *
    clear hgq
    refine (impl_filesOk V.K V.d D.safe _ HR.out.2.1 HS2.out HN.out.2.1).mono ?_
    rintro e w1 ⟨rfl, hb1⟩
    have HB1 := hid hb1
    clear hb1
    have x1 := (X.out.below HB1.out).c1
    have x2 := (X.out.below HB1.out).c2
    go_wp2_with fail
    clear x1 x2
    refine (impl_playedOn V.K V.d D.safe V.O V.o D.ops _ ((HR.out.2.1.below HB1.out).more HB1.out.size) HVK.out.2.1 H2.out ((HR.out.2.2.below HB1.out).more HB1.out.size) HS3.out (by omega)).mono ?_
    rintro e w2 ⟨hb2, ⟨A2, c2, m, hq, rfl, hrm, hvm⟩ | ⟨hq, rfl⟩⟩
    · have HB2 := hid (HB1.out.trans (hb2.mono HB1.out.size))
      have HE := hid (HEN.out m hq)
      have HRM := hid hrm
      have hml : m.length ≤ maxLen := Nat.le_trans (fitB_iff.1 (filesB_iff.1 (playD_files H2.out hq)).1).1 (by decide)
      clear hb2 hrm hvm
      have x0 := (X.out.below HB2.out).c0
      go_wp2_with fail
      refine (equalF_any A2 V.A c2 V.c m D.live _ HRM.out ((HR.out.1.below HB2.out).more HB2.out.size) hml).mono ?_
      rintro e w3 ⟨rfl, hd3⟩
      have HB3 := hid (HB2.out.trans ((hd3.below w2.heap.size).mono HB2.out.size))
      clear hd3
      go_wp2_with fail
      go_ret
      exact ⟨ret_bool HE.out.symm, HB.out.trans (HB3.out.mono HB.out.size)⟩
    · have HB2 := hid (HB1.out.trans (hb2.mono HB1.out.size))
      have HE := hid (HNO.out hq)
      clear hb2
      go_wp2_with fail
      go_ret
      exact ⟨ret_bool HE.out.symm, HB.out.trans (HB2.out.mono HB.out.size)⟩
  · have HE := hid (diskD_ops h3)
    go_enter Try.func51, Try.ntmps51
    go_wp2_with fail
    generalize hgq : w.alloc (.cells #[.slice V.A D.live.length V.c, .slice V.K D.safe.length V.d, .slice V.O D.ops.length V.o] 33) = w0 at *
    clear hgq
    refine (impl_filesOk V.K V.d D.safe _ HR.out.2.1 HS2.out HN.out.2.1).mono ?_
    rintro e w1 ⟨rfl, hb1⟩
    have HB1 := hid hb1
    clear hb1
    have x2 := (X.out.below HB1.out).c2
    go_wp2_with fail
    go_ret
    exact ⟨ret_bool HE.out.symm, HB.out.trans (HB1.out.mono HB.out.size)⟩
end Go.Proofs.Ytaiehccpefjbfaa
