/-
  A map behind changes, in both; Changed.
-/
import Derived.Test.YtoipcjdpfbgghabDeltaOk
import Derived.Test.YtoipcjdpfbgghabRange
import Derived.Test.YtoipcjdpfbgghabChgKit
import Derived.Test.YtoipcjdpfbgghabSpecPut
import Derived.Test.YtoipcjdpfbgghabMadeKit
namespace Go.Proofs.Ytoipcjdpfbgghab
open Go.RowKit

theorem spec_l1Copy (A : Option Addr) (c : Nat) (ps : PS) (w : World) (hr : RP w w.heap.size A ps) (hn : ps.length ≤ 1048576) :
    Calls Try.prog 44 #[.slice A ps.length c] w (Made w w.heap.size ps) := by
  obtain ⟨i0, hi0, hz0, hz1, hz2⟩ := info_parts pairInfo
  have HR := hid ((hr.below ((Below.refl _ _).alloc (Nat.le_refl _) (.cells #[] 48))).more (B' := (w.alloc (.cells #[] 48)).heap.size) (by simp))
  have HO := hid (OwnP.made (w := w) (B := w.heap.size) (Nat.le_refl _) #[] 0 rfl (by unfold maxLen; omega))
  have HL : Hid (([] : PS).length + ps.length ≤ 4000000) := by simp [Hid]; omega
  have HB : Hid (Below w.heap.size w (w.alloc (.cells #[] 48))) := (Below.refl _ _).alloc (Nat.le_refl _) _
  clear hr
  go_enter Try.func44, Try.ntmps44
  go_wp2_with (at_builtin; refine wpList_append_rp _ rfl _ _ _ rfl i0 Try.underlying24 hi0 hz0 hz1 hz2 w.heap.size (some ⟨w.heap.size, 0, none⟩) 0 0 [] rfl rfl HO.out _ _ _ _ ps rfl rfl HR.out HL.out HB.out.size ?_; intro A5 n5 c5 w5 hn5 hown5 hbw5; have HN5 := hid hn5; have HO5 := hid hown5; have HB5 := hid hbw5; clear hn5 hown5 hbw5)
  go_ret
  have e : n5 = ps.length := HN5.out
  subst e
  exact ⟨A5, c5, rfl, HO5.out, HB.out.trans HB5.out⟩

/-- The program's Clone, nil let in. -/
theorem clone_all (A : Option Addr) (c : Nat) (ps : PS) (w : World) (hr : RP w w.heap.size A ps) (hv : VS A c ps.length) (hl : ps.length ≤ 1000) :
    Calls Try.prog 59 #[.slice A ps.length c] w (Made w w.heap.size ps) := by
  rcases hv with ⟨rfl, rfl, h0⟩ | ⟨g, off, rfl, _, _⟩
  · obtain rfl : ps = [] := List.eq_nil_of_length_eq_zero h0
    have qT : ∀ (w : World) (a : Option Addr) (n c n' c' : Nat), (binOp .eql 24 (.slice a n c) (.slice none n' c')).run Try.prog w = .ok (.bool a.isNone) w := fun w a n c n' c' => Lib.run_eql_slice_nil w _ _ a n c n' c' Try.underlying24
    clear hr h0 hl
    go_enter Try.func59, Try.ntmps59
    go_wp2_with fail
    go_ret
    exact ⟨none, 0, rfl, OwnP.nil_ _ _, Below.refl _ _⟩
  · exact clone_any g off ps.length c ps w hr rfl hl

/-- The map behind them, in a row of the call's own. -/
def Behind (w : World) (B : Nat) (L : PS) (e : Ending) (w' : World) : Prop := ∃ A c, e = .returned (.slice A L.length c) ∧ OwnP w' B A c L ∧ Below B w w'

theorem stepL_gone {m : PS} {x : CD} (h : x.2.2 = true) : stepL m x = dropL m x.1 := by simp [stepL, h]
theorem stepL_put {m : PS} {x : CD} (h : x.2.2 = false) : stepL m x = putL m x.1 x.2.1 := by simp [stepL, h]

set_option maxHeartbeats 4000000 in
set_option maxRecDepth 100000 in
theorem spec_l6Apply (A : Option Addr) (c : Nat) (m : PS) (K : Option Addr) (d : Nat) (ls : CS) (B : Nat) (w : World) (ho : OwnP w B A c m) (hB : B ≤ w.heap.size) (hl : RC w w.heap.size K ls) (hm : m.length ≤ 1000) (hn : ls.length ≤ 1000) :
    Calls Try.prog 46 #[.slice A m.length c, .slice K ls.length d] w (fun e w' => Behind w B (applyL m ls) e w' ∧ Below w.heap.size w w') := by
  have HO := hid ho
  have HL := hid hl
  have HB0 := hid hB
  have HN : Hid (∀ k, (applyL m (ls.take k)).length ≤ 2000) := fun k => by
    have h1 := applyL_len m (ls.take k)
    have h2 : (ls.take k).length ≤ ls.length := by rw [List.length_take]; omega
    omega
  clear ho hl
  go_enter Try.func46, Try.ntmps46
  go_wp2_with fail
  go_loopw [0, 5] (fun q i wr => ∃ (k n : Nat) (A' : Option Addr) (c' : Nat), k ≤ ls.length ∧ i = .int .i64 k ∧ q = .slice A' n c' ∧ Hid (n = (applyL m (ls.take k)).length) ∧ Hid (OwnP wr B A' c' (applyL m (ls.take k))) ∧ Hid (Below w.heap.size w wr)) (fun _ i _ => ls.length - (intOf i).toNat)
  case atStart => exact ⟨0, _, _, _, Nat.zero_le _, rfl, rfl, rfl, HO.out, Below.refl _ w⟩
  case round =>
    obtain ⟨k, n, A', c', hk, rfl, rfl, HN', HP, HD⟩ := hrel
    by_cases hlt : k < ls.length
    · obtain ⟨b, off, rfl, hb, hc1, hc2, hc3⟩ := (HL.out.below HD.out).at_ hlt
      have HS := hid (applyL_succ m hlt)
      have HNk := hid (HN.out k)
      have e5 : (0 : Int) ≤ (k : Int) := by omega
      have e6 : (k : Int) < (ls.length : Int) := by omega
      generalize applyL m (ls.take k) = P at *
      cases hg : ls[k].2.2
      · rw [hg] at hc3
        have HP2 := hid (HS.out.trans (stepL_put hg))
        have en := HN'.out
        subst en
        go_wp2_with fail
        go_region_held3 (fun w' => w'.cell? ⟨b, off + k * 3, none⟩ = some (.string ls[k].1) ∧ w'.cell? ⟨b, off + k * 3 + 1, none⟩ = some (.string ls[k].2.1)) (go_keep)
          (first | (go_at_call 65; refine (spec_l1Put A' c' P _ _ _ (by first | exact HP.out.rp | exact (HP.out.below (Below.refl _ _).drew).rp) (by have := HNk.out; omega)).mono ?_; rintro e w4 ⟨A4, c4, rfl, ho4, hb4⟩; have hc4 : w4.cell? ⟨b, off + k * 3, none⟩ = some (.string ls[k].1) := (hb4.cell (p := ⟨b, off + k * 3, none⟩) (by have := HD.out.size; simp; omega)).trans (by first | exact hc1 | go_simp); have hc5 : w4.cell? ⟨b, off + k * 3 + 1, none⟩ = some (.string ls[k].2.1) := (hb4.cell (p := ⟨b, off + k * 3 + 1, none⟩) (by have := HD.out.size; simp; omega)).trans (by first | exact hc2 | go_simp); have HO4 := hid ho4; have HB4 := hid (show Below wr.heap.size wr w4 by first | exact hb4 | exact (Below.refl _ _).drew.trans hb4); clear ho4 hb4))
        go_wp2_with fail
        go_roundw
        case rel => exact ⟨k + 1, _, _, _, by omega, by go_num, rfl, (by rw [HP2.out]; rfl), (by rw [HP2.out]; exact (HO4.out.mono (by have := HD.out.size; have := HB0.out; simp; omega))), HD.out.trans (HB4.out.mono HD.out.size)⟩
        case measure => simp [intOf]; omega
      · rw [hg] at hc3
        have HP2 := hid (HS.out.trans (stepL_gone hg))
        have en := HN'.out
        subst en
        go_wp2_with (go_at_call 64; refine (spec_l1Drop A' c' P _ _ HP.out.rp (by have := HNk.out; omega)).mono ?_; rintro e w4 ⟨A4, c4, rfl, ho4, hb4⟩; have HO4 := hid ho4; have HB4 := hid hb4; clear ho4 hb4)
        go_roundw
        case rel => exact ⟨k + 1, _, _, _, by omega, by go_num, rfl, (by rw [HP2.out]; rfl), (by rw [HP2.out]; exact (HO4.out.mono (by have := HD.out.size; have := HB0.out; omega))), HD.out.trans (HB4.out.mono HD.out.size)⟩
        case measure => simp [intOf]; omega
    · obtain rfl : k = ls.length := by omega
      rw [List.take_length] at HN' HP
      have en := HN'.out
      subst en
      go_wp2_with fail
      go_ret
      exact ⟨⟨A', c', rfl, HP.out, HD.out.mono HB0.out⟩, HD.out⟩

set_option maxHeartbeats 4000000 in
set_option maxRecDepth 100000 in
theorem impl_mapBehind (A : Option Addr) (c : Nat) (m : PS) (K : Option Addr) (d : Nat) (ls : CS) (w : World) (hr : RP w w.heap.size A m) (hv : VS A c m.length) (hl : RC w w.heap.size K ls) (hs : risesB m = true) (hm : m.length ≤ 300) (hn : ls.length ≤ 300) :
    Calls Try.prog 41 #[.slice A m.length c, .slice K ls.length d] w (Made w w.heap.size (applyL m ls)) := by
  have HR := hid hr
  have HL := hid hl
  have HV := hid hv
  have HN : Hid (∀ k, (applyL m (ls.take k)).length ≤ 600) := fun k => by
    have h1 := applyL_len m (ls.take k)
    have h2 : (ls.take k).length ≤ ls.length := by rw [List.length_take]; omega
    omega
  have HRS : Hid (∀ k, risesB (applyL m (ls.take k)) = true) := fun k => applyL_rises hs _
  clear hr hl hv hs
  go_enter Try.func41, Try.ntmps41
  go_wp2_with (go_at_call 59; refine (clone_all A c m _ HR.out HV.out (by omega)).mono ?_; rintro e w1 ⟨A1, c1, rfl, ho1, hb1⟩; have HO1 := hid ho1; have HB1 := hid hb1; clear ho1 hb1)
  go_loopw [5, 14] (fun q i wr => ∃ (k n : Nat) (A' : Option Addr) (c' : Nat), k ≤ ls.length ∧ i = .int .i64 k ∧ q = .slice A' n c' ∧ Hid (n = (applyL m (ls.take k)).length) ∧ Hid (OwnP wr w.heap.size A' c' (applyL m (ls.take k))) ∧ Hid (Below w.heap.size w wr)) (fun _ i _ => ls.length - (intOf i).toNat)
  case atStart => exact ⟨0, _, _, _, Nat.zero_le _, rfl, rfl, rfl, HO1.out, HB1.out⟩
  case round =>
    obtain ⟨k, n, A', c', hk, rfl, rfl, HN', HP, HD⟩ := hrel
    by_cases hlt : k < ls.length
    · obtain ⟨b, off, rfl, hb, hc1, hc2, hc3⟩ := (HL.out.below HD.out).at_ hlt
      have HS := hid (applyL_succ m hlt)
      have HNk := hid (HN.out k)
      have HRk := hid (HRS.out k)
      have e5 : (0 : Int) ≤ (k : Int) := by omega
      have e6 : (k : Int) < (ls.length : Int) := by omega
      generalize applyL m (ls.take k) = P at *
      cases hg : ls[k].2.2
      · rw [hg] at hc3
        have HP2 := hid (HS.out.trans (stepL_put hg))
        have en := HN'.out
        subst en
        have HPA := hid (HP.out.below ((Below.refl wr.heap.size wr).alloc (Nat.le_refl _) (.cells #[.string ls[k].1, .string ls[k].2.1, .bool false] 62)))
        have HDA := hid (HD.out.alloc HD.out.size (.cells #[.string ls[k].1, .string ls[k].2.1, .bool false] 62))
        go_wp2_with (go_at_call 60; refine (with_any A' c' P _ _ _ HPA.out.rp HPA.out.vs (by have := HNk.out; omega) HRk.out).mono ?_; rintro e w4 ⟨A4, c4, rfl, ho4, hb4⟩; have HO4 := hid ho4; have HB4 := hid hb4; clear ho4 hb4)
        go_roundw
        case rel => exact ⟨k + 1, _, _, _, by omega, by go_num, rfl, (by rw [HP2.out]; rfl), (by rw [HP2.out]; exact HO4.out.mono HDA.out.size), HDA.out.trans (HB4.out.mono HDA.out.size)⟩
        case measure => simp [intOf]; omega
      · rw [hg] at hc3
        have HP2 := hid (HS.out.trans (stepL_gone hg))
        have en := HN'.out
        subst en
        have HPA := hid (HP.out.below ((Below.refl wr.heap.size wr).alloc (Nat.le_refl _) (.cells #[.string ls[k].1, .string ls[k].2.1, .bool true] 62)))
        have HDA := hid (HD.out.alloc HD.out.size (.cells #[.string ls[k].1, .string ls[k].2.1, .bool true] 62))
        cases hh : hasK P ls[k].1
        · have HP3 := hid (HP2.out.trans (dropL_none hh))
          go_wp2_with (go_at_call 61; refine (without_no A' c' P _ _ HPA.out.rp HPA.out.vs (by have := HNk.out; omega) HRk.out hh).mono ?_; rintro e w4 ⟨A4, c4, rfl, ho4, hb4⟩; have HB4 := hid hb4; clear ho4 hb4)
          go_roundw
          case rel => exact ⟨k + 1, _, _, _, by omega, by go_num, rfl, (by rw [HP3.out]; rfl), (by rw [HP3.out]; exact HPA.out.below HB4.out), HDA.out.trans (HB4.out.mono HDA.out.size)⟩
          case measure => simp [intOf]; omega
        · go_wp2_with (go_at_call 61; refine (without_yes A' c' P _ _ HPA.out.rp HPA.out.vs (by have := HNk.out; omega) HRk.out hh).mono ?_; rintro e w4 ⟨A4, c4, rfl, ho4, hb4⟩; have HO4 := hid ho4; have HB4 := hid hb4; clear ho4 hb4)
          go_roundw
          case rel => exact ⟨k + 1, _, _, _, by omega, by go_num, rfl, (by rw [HP2.out]; rfl), (by rw [HP2.out]; exact HO4.out.mono HDA.out.size), HDA.out.trans (HB4.out.mono HDA.out.size)⟩
          case measure => simp [intOf]; omega
    · obtain rfl : k = ls.length := by omega
      rw [List.take_length] at HN' HP
      have en := HN'.out
      subst en
      go_wp2_with fail
      go_ret
      exact ⟨A', c', rfl, HP.out, HD.out⟩

theorem changedB_m {m : PS} {ls : CS} (h : mapB m = false) : changedB m ls = false := by simp [changedB, h]
theorem changedB_l {m : PS} {ls : CS} (h : deltaB ls = false) : changedB m ls = false := by simp [changedB, h]
theorem changedB_n {m : PS} {ls : CS} (h : ¬ (applyL m ls).length ≤ 60) : changedB m ls = false := by simp [changedB, h]
theorem changedB_y {m : PS} {ls : CS} (h1 : mapB m = true) (h2 : deltaB ls = true) (h : (applyL m ls).length ≤ 60) : changedB m ls = true := by simp [changedB, h1, h2, h]
theorem changedL_y {m : PS} {ls : CS} (h : changedB m ls = true) : changedL m ls = applyL m ls := by simp [changedL, h]
theorem changedL_n {m : PS} {ls : CS} (h : changedB m ls = false) : changedL m ls = [] := by simp [changedL, h]
theorem fits_apply {m : PS} {ls : CS} (h1 : mapB m = true) (h2 : deltaB ls = true) : Fits (applyL m ls) := by
  intro p hp
  have := applyL_right (mapB_iff.1 h1).2.1 (deltaB_iff.1 h2).2.1 p hp
  simp only [pairB, Bool.and_eq_true] at this
  have a := keyB_small this.1
  have b := keyB_small this.2
  unfold maxLen
  omega

set_option maxHeartbeats 2000000 in
theorem spec_Changed (A : Option Addr) (c : Nat) (m : PS) (K : Option Addr) (d : Nat) (ls : CS) (w : World) (hr : RP w w.heap.size A m) (hf : Fits m) (hn : m.length ≤ maxLen) (hl : RC w w.heap.size K ls) (hg : FitsC ls) (hk : ls.length ≤ maxLen) :
    Calls Try.prog 29 #[.slice A m.length c, .slice K ls.length d] w (Made2 w (changedL m ls) (changedB m ls)) := by
  have HR := hid hr
  have HF := hid hf
  have HN := hid hn
  have HL := hid hl
  have HG := hid hg
  have HK := hid hk
  clear hr hf hn hl hg hk
  cases h1 : mapB m
  · have HB : Hid (changedB m ls = false) := changedB_m h1
    go_enter Try.func29, Try.ntmps29
    go_wp2_with (go_at_call 35; refine (spec_MapOk A c m _ _ HR.out HF.out HN.out).mono ?_; rintro e w2 ⟨rfl, hw2⟩)
    go_ret2
    exact Made2.no (changedL_n HB.out) HB.out (hw2.below _)
  cases h2 : deltaB ls
  · have HB : Hid (changedB m ls = false) := changedB_l h2
    go_enter Try.func29, Try.ntmps29
    go_wp2_with (first
      | (go_at_call 35; refine (spec_MapOk A c m _ _ HR.out HF.out HN.out).mono ?_; rintro e w2 ⟨rfl, hw2⟩; have HB2 := hid (hw2.below w.heap.size))
      | (go_at_call 15; refine (spec_DeltaOk K d ls _ ((HL.out.below HB2.out).more HB2.out.size) HG.out HK.out).mono ?_; rintro e w3 ⟨rfl, hw3⟩))
    go_ret2
    exact Made2.no (changedL_n HB.out) HB.out (HB2.out.trans (hw3.mono HB2.out.size))
  have hm60 := (mapB_iff.1 h1).1
  have hl60 := (deltaB_iff.1 h2).1
  have HOK := hid (applyL_ok h1 (deltaB_iff.1 h2).2.1)
  have HFA := hid (fits_apply h1 h2)
  have HLA : Hid ((applyL m ls).length ≤ maxLen) := by
    have := applyL_len m ls
    unfold Hid maxLen
    omega
  by_cases h3 : (applyL m ls).length ≤ 60
  · have HB := hid (changedB_y h1 h2 h3)
    have h4 : mapB (applyL m ls) = true := by rw [HOK.out]; simp [h3]
    go_enter Try.func29, Try.ntmps29
    go_wp2_with (first
      | (go_at_call 35; (with_reducible refine (spec_MapOk A c m _ _ HR.out HF.out HN.out).mono ?_); rintro e w2 ⟨rfl, hw2⟩; have HB2 := hid (hw2.below w.heap.size))
      | (go_at_call 15; refine (spec_DeltaOk K d ls _ ((HL.out.below HB2.out).more HB2.out.size) HG.out HK.out).mono ?_; rintro e w3 ⟨rfl, hw3⟩; have HB3 := hid (HB2.out.trans (hw3.mono HB2.out.size)))
      | (go_at_call 44; refine (spec_l1Copy A c m _ ((HR.out.below HB3.out).more HB3.out.size) (by omega)).mono ?_; rintro e w4 ⟨A4, c4, rfl, ho4, hb4⟩; have HO4 := hid ho4; have HB4 := hid (HB3.out.trans (hb4.mono HB3.out.size)); have HS4 := hid hb4.size; clear ho4 hb4)
      | (go_at_call 46; refine (spec_l6Apply A4 c4 m K d ls w3.heap.size _ HO4.out HS4.out ((HL.out.below HB4.out).more HB4.out.size) (by omega) (by omega)).mono ?_; rintro e w5 ⟨⟨A5, c5, rfl, ho5, _⟩, hb5⟩; have HO5 := hid (ho5.mono HB3.out.size); have HB5 := hid (HB4.out.trans (hb5.mono HB4.out.size)); clear ho5 hb5)
      | (go_at_call 35; (with_reducible refine (spec_MapOk A5 c5 (applyL m ls) _ _ HO5.out.rp HFA.out HLA.out).mono ?_); rintro e w6 ⟨rfl, hw6⟩; have HB6 := hid (hw6.below w5.heap.size)))
    go_ret2
    exact Made2.yes (changedL_y HB.out) HB.out (HO5.out.below HB6.out) (HB5.out.trans (HB6.out.mono HB5.out.size))
  · have HB : Hid (changedB m ls = false) := changedB_n h3
    have h4 : mapB (applyL m ls) = false := by rw [HOK.out]; simp [h3]
    go_enter Try.func29, Try.ntmps29
    go_wp2_with (first
      | (go_at_call 35; (with_reducible refine (spec_MapOk A c m _ _ HR.out HF.out HN.out).mono ?_); rintro e w2 ⟨rfl, hw2⟩; have HB2 := hid (hw2.below w.heap.size))
      | (go_at_call 15; refine (spec_DeltaOk K d ls _ ((HL.out.below HB2.out).more HB2.out.size) HG.out HK.out).mono ?_; rintro e w3 ⟨rfl, hw3⟩; have HB3 := hid (HB2.out.trans (hw3.mono HB2.out.size)))
      | (go_at_call 44; refine (spec_l1Copy A c m _ ((HR.out.below HB3.out).more HB3.out.size) (by omega)).mono ?_; rintro e w4 ⟨A4, c4, rfl, ho4, hb4⟩; have HO4 := hid ho4; have HB4 := hid (HB3.out.trans (hb4.mono HB3.out.size)); have HS4 := hid hb4.size; clear ho4 hb4)
      | (go_at_call 46; refine (spec_l6Apply A4 c4 m K d ls w3.heap.size _ HO4.out HS4.out ((HL.out.below HB4.out).more HB4.out.size) (by omega) (by omega)).mono ?_; rintro e w5 ⟨⟨A5, c5, rfl, ho5, _⟩, hb5⟩; have HO5 := hid (ho5.mono HB3.out.size); have HB5 := hid (HB4.out.trans (hb5.mono HB4.out.size)); clear ho5 hb5)
      | (go_at_call 35; (with_reducible refine (spec_MapOk A5 c5 (applyL m ls) _ _ HO5.out.rp HFA.out HLA.out).mono ?_); rintro e w6 ⟨rfl, hw6⟩; have HB6 := hid (hw6.below w5.heap.size)))
    go_ret2
    exact Made2.no (changedL_n HB.out) HB.out (HB5.out.trans (HB6.out.mono HB5.out.size))

set_option maxHeartbeats 2000000 in
theorem impl_Changed (A : Option Addr) (c : Nat) (m : PS) (K : Option Addr) (d : Nat) (ls : CS) (w : World) (hr : RP w w.heap.size A m) (hv : VS A c m.length) (hf : Fits m) (hn : m.length ≤ maxLen) (hl : RC w w.heap.size K ls) (hg : FitsC ls) (hk : ls.length ≤ maxLen) :
    Calls Try.prog 16 #[.slice A m.length c, .slice K ls.length d] w (Made2 w (changedL m ls) (changedB m ls)) := by
  have HR := hid hr
  have HF := hid hf
  have HN := hid hn
  have HL := hid hl
  have HG := hid hg
  have HK := hid hk
  have HV := hid hv
  clear hr hf hn hl hg hk hv
  cases h1 : mapB m
  · have HB : Hid (changedB m ls = false) := changedB_m h1
    go_enter Try.func16, Try.ntmps16
    go_wp2_with (go_at_call 33; refine (impl_MapOk A c m _ HR.out HF.out HN.out).mono ?_; rintro e w2 ⟨rfl, hw2⟩)
    go_ret2
    exact Made2.no (changedL_n HB.out) HB.out hw2
  cases h2 : deltaB ls
  · have HB : Hid (changedB m ls = false) := changedB_l h2
    go_enter Try.func16, Try.ntmps16
    go_wp2_with (first
      | (go_at_call 33; refine (impl_MapOk A c m _ HR.out HF.out HN.out).mono ?_; rintro e w2 ⟨rfl, hw2⟩; have HB2 := hid hw2)
      | (go_at_call 14; refine (impl_DeltaOk K d ls _ ((HL.out.below HB2.out).more HB2.out.size) HG.out HK.out).mono ?_; rintro e w3 ⟨rfl, hw3⟩))
    go_ret2
    exact Made2.no (changedL_n HB.out) HB.out (HB2.out.trans (hw3.mono HB2.out.size))
  have hm60 := (mapB_iff.1 h1).1
  have hl60 := (deltaB_iff.1 h2).1
  have HRI := hid (mapB_iff.1 h1).2.2
  have hla : (applyL m ls).length ≤ 120 := by have := applyL_len m ls; omega
  by_cases h3 : (applyL m ls).length ≤ 60
  · have HB := hid (changedB_y h1 h2 h3)
    go_enter Try.func16, Try.ntmps16
    go_wp2_with (first
      | (go_at_call 33; refine (impl_MapOk A c m _ HR.out HF.out HN.out).mono ?_; rintro e w2 ⟨rfl, hw2⟩; have HB2 := hid hw2)
      | (go_at_call 14; refine (impl_DeltaOk K d ls _ ((HL.out.below HB2.out).more HB2.out.size) HG.out HK.out).mono ?_; rintro e w3 ⟨rfl, hw3⟩; have HB3 := hid (HB2.out.trans (hw3.mono HB2.out.size)))
      | (go_at_call 41; refine (impl_mapBehind A c m K d ls _ ((HR.out.below HB3.out).more HB3.out.size) HV.out ((HL.out.below HB3.out).more HB3.out.size) HRI.out (by omega) (by omega)).mono ?_; rintro e w5 ⟨A5, c5, rfl, ho5, hb5⟩; have HO5 := hid (ho5.mono HB3.out.size); have HB5 := hid (HB3.out.trans (hb5.mono HB3.out.size)); clear ho5 hb5))
    go_ret2
    exact Made2.yes (changedL_y HB.out) HB.out HO5.out HB5.out
  · have HB : Hid (changedB m ls = false) := changedB_n h3
    go_enter Try.func16, Try.ntmps16
    go_wp2_with (first
      | (go_at_call 33; refine (impl_MapOk A c m _ HR.out HF.out HN.out).mono ?_; rintro e w2 ⟨rfl, hw2⟩; have HB2 := hid hw2)
      | (go_at_call 14; refine (impl_DeltaOk K d ls _ ((HL.out.below HB2.out).more HB2.out.size) HG.out HK.out).mono ?_; rintro e w3 ⟨rfl, hw3⟩; have HB3 := hid (HB2.out.trans (hw3.mono HB2.out.size)))
      | (go_at_call 41; refine (impl_mapBehind A c m K d ls _ ((HR.out.below HB3.out).more HB3.out.size) HV.out ((HL.out.below HB3.out).more HB3.out.size) HRI.out (by omega) (by omega)).mono ?_; rintro e w5 ⟨A5, c5, rfl, ho5, hb5⟩; have HO5 := hid (ho5.mono HB3.out.size); have HB5 := hid (HB3.out.trans (hb5.mono HB3.out.size)); clear ho5 hb5))
    go_ret2
    exact Made2.no (changedL_n HB.out) HB.out HB5.out
end Go.Proofs.Ytoipcjdpfbgghab
