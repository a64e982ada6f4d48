/-
  DeltaOf and Joined of both.
-/
import Derived.Test.YtoipcjdpfbgghabDeltaJ
namespace Go.Proofs.Ytoipcjdpfbgghab
open Go.RowKit

set_option maxHeartbeats 2000000 in
theorem spec_DeltaOf (A : Option Addr) (c : Nat) (a : PS) (K : Option Addr) (d : Nat) (b : PS) (w : World) (hr : RP w w.heap.size A a) (hf : Fits a) (hn : a.length ≤ maxLen) (hl : RP w w.heap.size K b) (hg : Fits b) (hk : b.length ≤ maxLen) :
    Calls Try.prog 11 #[.slice A a.length c, .slice K b.length d] w (MadeC2 w (deltaOfL a b) (deltaOfB a b)) := by
  have HR := hid hr
  have HF := hid hf
  have HN := hid hn
  have HL := hid hl
  have HG := hid hg
  have HK := hid hk
  clear hr hf hn hl hg hk
  cases h1 : mapB a
  · have HB : Hid (deltaOfB a b = false) := deltaOfB_a h1
    go_enter Try.func11, Try.ntmps11
    go_wp2_with (go_at_call 35; refine (spec_MapOk A c a _ _ HR.out HF.out HN.out).mono ?_; rintro e w2 ⟨rfl, hw2⟩)
    go_ret2
    exact MadeC2.no (deltaOfL_n HB.out) HB.out (hw2.below _)
  cases h2 : mapB b
  · have HB : Hid (deltaOfB a b = false) := deltaOfB_b h2
    go_enter Try.func11, Try.ntmps11
    go_wp2_with (first
      | (go_at_call 35; (with_reducible refine (spec_MapOk A c a _ _ HR.out HF.out HN.out).mono ?_); rintro e w2 ⟨rfl, hw2⟩; have HB2 := hid (hw2.below w.heap.size); clear hw2; have tk1 : Hid (1 = 1) := rfl)
      | (go_at_call 35; clear tk1; refine (spec_MapOk K d b _ _ ((HL.out.below HB2.out).more HB2.out.size) HG.out HK.out).mono ?_; rintro e w3 ⟨rfl, hw3⟩))
    go_ret2
    exact MadeC2.no (deltaOfL_n HB.out) HB.out (HB2.out.trans (hw3.below _))
  have ha60 := (mapB_iff.1 h1).1
  have hb60 := (mapB_iff.1 h2).1
  have HSA := hid (mapB_iff.1 h1).2.2
  have HSB := hid (mapB_iff.1 h2).2.2
  have HOK := hid (deltaL_ok h1 h2)
  have HFA := hid (fits_delta h1 h2)
  have HLA : Hid ((deltaL a b).length ≤ maxLen) := by
    have := len_delta h1 h2
    unfold Hid maxLen
    omega
  by_cases h3 : (deltaL a b).length ≤ 60
  · have HB := hid (deltaOfB_y h1 h2 h3)
    have h4 : deltaB (deltaL a b) = true := by rw [HOK.out]; simp [h3]
    go_enter Try.func11, Try.ntmps11
    go_wp2_with (first
      | (go_at_call 35; (with_reducible refine (spec_MapOk A c a _ _ HR.out HF.out HN.out).mono ?_); rintro e w2 ⟨rfl, hw2⟩; have HB2 := hid (hw2.below w.heap.size); clear hw2; have tk1 : Hid (1 = 1) := rfl)
      | (go_at_call 35; clear tk1; refine (spec_MapOk K d b _ _ ((HL.out.below HB2.out).more HB2.out.size) HG.out HK.out).mono ?_; rintro e w3 ⟨rfl, hw3⟩; have HB3 := hid (HB2.out.trans (hw3.below _)); clear hw3)
      | (go_at_call 36; refine (spec_l9Of A c a K d b _ ((HR.out.below HB3.out).more HB3.out.size) ((HL.out.below HB3.out).more HB3.out.size) (by omega) (by omega) HSA.out HSB.out).mono ?_; rintro e w5 ⟨A5, c5, rfl, ho5, hb5⟩; have HO5 := hid (ho5.mono HB3.out.size); have HB5 := hid (HB3.out.trans (hb5.mono HB3.out.size)); clear ho5 hb5)
      | (go_at_call 15; refine (spec_DeltaOk A5 c5 (deltaL a b) _ (OwnC.rh HO5.out) HFA.out HLA.out).mono ?_; rintro e w6 ⟨rfl, hw6⟩; have HB6 := hid hw6))
    go_ret2
    exact MadeC2.yes (deltaOfL_y HB.out) HB.out (HO5.out.below HB6.out) (HB5.out.trans (HB6.out.mono HB5.out.size))
  · have HB : Hid (deltaOfB a b = false) := deltaOfB_n h3
    have h4 : deltaB (deltaL a b) = false := by rw [HOK.out]; simp [h3]
    go_enter Try.func11, Try.ntmps11
    go_wp2_with (first
      | (go_at_call 35; (with_reducible refine (spec_MapOk A c a _ _ HR.out HF.out HN.out).mono ?_); rintro e w2 ⟨rfl, hw2⟩; have HB2 := hid (hw2.below w.heap.size); clear hw2; have tk1 : Hid (1 = 1) := rfl)
      | (go_at_call 35; clear tk1; refine (spec_MapOk K d b _ _ ((HL.out.below HB2.out).more HB2.out.size) HG.out HK.out).mono ?_; rintro e w3 ⟨rfl, hw3⟩; have HB3 := hid (HB2.out.trans (hw3.below _)); clear hw3)
      | (go_at_call 36; refine (spec_l9Of A c a K d b _ ((HR.out.below HB3.out).more HB3.out.size) ((HL.out.below HB3.out).more HB3.out.size) (by omega) (by omega) HSA.out HSB.out).mono ?_; rintro e w5 ⟨A5, c5, rfl, ho5, hb5⟩; have HO5 := hid (ho5.mono HB3.out.size); have HB5 := hid (HB3.out.trans (hb5.mono HB3.out.size)); clear ho5 hb5)
      | (go_at_call 15; refine (spec_DeltaOk A5 c5 (deltaL a b) _ (OwnC.rh HO5.out) HFA.out HLA.out).mono ?_; rintro e w6 ⟨rfl, hw6⟩; have HB6 := hid hw6))
    go_ret2
    exact MadeC2.no (deltaOfL_n HB.out) HB.out (HB5.out.trans (HB6.out.mono HB5.out.size))

set_option maxHeartbeats 2000000 in
theorem impl_DeltaOf (A : Option Addr) (c : Nat) (a : PS) (K : Option Addr) (d : Nat) (b : PS) (w : World) (hr : RP w w.heap.size A a) (hf : Fits a) (hn : a.length ≤ maxLen) (hl : RP w w.heap.size K b) (hg : Fits b) (hk : b.length ≤ maxLen) :
    Calls Try.prog 10 #[.slice A a.length c, .slice K b.length d] w (MadeC2 w (deltaOfL a b) (deltaOfB a b)) := by
  have HR := hid hr
  have HF := hid hf
  have HN := hid hn
  have HL := hid hl
  have HG := hid hg
  have HK := hid hk
  clear hr hf hn hl hg hk
  cases h1 : mapB a
  · have HB : Hid (deltaOfB a b = false) := deltaOfB_a h1
    go_enter Try.func10, Try.ntmps10
    go_wp2_with (go_at_call 33; refine (impl_MapOk A c a _ HR.out HF.out HN.out).mono ?_; rintro e w2 ⟨rfl, hw2⟩)
    go_ret2
    exact MadeC2.no (deltaOfL_n HB.out) HB.out hw2
  cases h2 : mapB b
  · have HB : Hid (deltaOfB a b = false) := deltaOfB_b h2
    go_enter Try.func10, Try.ntmps10
    go_wp2_with (first
      | (go_at_call 33; (with_reducible refine (impl_MapOk A c a _ HR.out HF.out HN.out).mono ?_); rintro e w2 ⟨rfl, hw2⟩; have HB2 := hid hw2; clear hw2; have tk1 : Hid (1 = 1) := rfl)
      | (go_at_call 33; clear tk1; refine (impl_MapOk K d b _ ((HL.out.below HB2.out).more HB2.out.size) HG.out HK.out).mono ?_; rintro e w3 ⟨rfl, hw3⟩))
    go_ret2
    exact MadeC2.no (deltaOfL_n HB.out) HB.out (HB2.out.trans (hw3.mono HB2.out.size))
  have ha60 := (mapB_iff.1 h1).1
  have hb60 := (mapB_iff.1 h2).1
  have HSA := hid (mapB_iff.1 h1).2.2
  have HSB := hid (mapB_iff.1 h2).2.2
  have hla := len_delta h1 h2
  by_cases h3 : (deltaL a b).length ≤ 60
  · have HB := hid (deltaOfB_y h1 h2 h3)
    go_enter Try.func10, Try.ntmps10
    go_wp2_with (first
      | (go_at_call 33; (with_reducible refine (impl_MapOk A c a _ HR.out HF.out HN.out).mono ?_); rintro e w2 ⟨rfl, hw2⟩; have HB2 := hid hw2; clear hw2; have tk1 : Hid (1 = 1) := rfl)
      | (go_at_call 33; clear tk1; refine (impl_MapOk K d b _ ((HL.out.below HB2.out).more HB2.out.size) HG.out HK.out).mono ?_; rintro e w3 ⟨rfl, hw3⟩; have HB3 := hid (HB2.out.trans (hw3.mono HB2.out.size)); clear hw3)
      | (go_at_call 34; refine (impl_deltaBetween A c a K d b _ ((HR.out.below HB3.out).more HB3.out.size) ((HL.out.below HB3.out).more HB3.out.size) (by omega) (by omega) HSA.out HSB.out).mono ?_; rintro e w5 ⟨A5, c5, rfl, ho5, hb5⟩; have HO5 := hid (ho5.mono HB3.out.size); have HB5 := hid (HB3.out.trans (hb5.mono HB3.out.size)); clear ho5 hb5))
    go_ret2
    exact MadeC2.yes (deltaOfL_y HB.out) HB.out HO5.out HB5.out
  · have HB : Hid (deltaOfB a b = false) := deltaOfB_n h3
    go_enter Try.func10, Try.ntmps10
    go_wp2_with (first
      | (go_at_call 33; (with_reducible refine (impl_MapOk A c a _ HR.out HF.out HN.out).mono ?_); rintro e w2 ⟨rfl, hw2⟩; have HB2 := hid hw2; clear hw2; have tk1 : Hid (1 = 1) := rfl)
      | (go_at_call 33; clear tk1; refine (impl_MapOk K d b _ ((HL.out.below HB2.out).more HB2.out.size) HG.out HK.out).mono ?_; rintro e w3 ⟨rfl, hw3⟩; have HB3 := hid (HB2.out.trans (hw3.mono HB2.out.size)); clear hw3)
      | (go_at_call 34; refine (impl_deltaBetween A c a K d b _ ((HR.out.below HB3.out).more HB3.out.size) ((HL.out.below HB3.out).more HB3.out.size) (by omega) (by omega) HSA.out HSB.out).mono ?_; rintro e w5 ⟨A5, c5, rfl, ho5, hb5⟩; have HO5 := hid (ho5.mono HB3.out.size); have HB5 := hid (HB3.out.trans (hb5.mono HB3.out.size)); clear ho5 hb5))
    go_ret2
    exact MadeC2.no (deltaOfL_n HB.out) HB.out HB5.out

theorem joinedB_a {a b : CS} (h : deltaB a = false) : joinedB a b = false := by simp [joinedB, h]
theorem joinedB_b {a b : CS} (h : deltaB b = false) : joinedB a b = false := by simp [joinedB, h]
theorem joinedB_n {a b : CS} (h : ¬ (ovl a b).length ≤ 60) : joinedB a b = false := by simp [joinedB, h]
theorem joinedB_y {a b : CS} (h1 : deltaB a = true) (h2 : deltaB b = true) (h : (ovl a b).length ≤ 60) : joinedB a b = true := by simp [joinedB, h1, h2, h]
theorem joinedL_y {a b : CS} (h : joinedB a b = true) : joinedL a b = ovl a b := by simp [joinedL, h]
theorem joinedL_n {a b : CS} (h : joinedB a b = false) : joinedL a b = [] := by simp [joinedL, h]
theorem fits_right {x : CD} (h : changeB x = true) : x.1.size ≤ maxLen ∧ x.2.1.size ≤ maxLen := by
  simp only [changeB, Bool.and_eq_true] at h
  have k := keyB_small h.1
  have v : x.2.1.size ≤ 6 := by
    have h2 := h.2
    split at h2
    · have := of_decide_eq_true h2
      omega
    · exact keyB_small h2
  unfold maxLen
  omega
theorem fits_ovl {a b : CS} (h1 : deltaB a = true) (h2 : deltaB b = true) : FitsC (ovl a b) := by
  obtain ⟨_, a2, a3⟩ := deltaB_iff.1 h1
  obtain ⟨_, b2, b3⟩ := deltaB_iff.1 h2
  intro x hx
  rcases (mem_ovl a3 b3 x).1 hx with h | ⟨h, _⟩
  · exact fits_right (b2 x h)
  · exact fits_right (a2 x h)
theorem small_all (a b : CS) (k : Nat) : (writeAll a (b.take k)).length ≤ a.length + b.length := by
  have h1 := writeAll_len a (b.take k)
  have h3 : (b.take k).length ≤ b.length := by rw [List.length_take]; omega
  omega
theorem writeAll_succ {b : CS} {k : Nat} (a : CS) (h : k < b.length) : writeAll a (b.take (k + 1)) = writeL (writeAll a (b.take k)) b[k] := by
  rw [List.take_succ_eq_append_getElem h, writeAll_snoc]

set_option maxHeartbeats 4000000 in
set_option maxRecDepth 100000 in
theorem spec_Joined (A : Option Addr) (c : Nat) (a : CS) (K : Option Addr) (d : Nat) (b : CS) (w : World) (hr : RC w w.heap.size A a) (hf : FitsC a) (hn : a.length ≤ maxLen) (hl : RC w w.heap.size K b) (hg : FitsC b) (hk : b.length ≤ maxLen) :
    Calls Try.prog 20 #[.slice A a.length c, .slice K b.length d] w (MadeC2 w (joinedL a b) (joinedB a b)) := by
  obtain ⟨i0, hi0, hz0, hz1, hz2⟩ := info_parts chgInfo
  have HR := hid hr
  have HF := hid hf
  have HN := hid hn
  have HL := hid hl
  have HG := hid hg
  have HK := hid hk
  clear hr hf hn hl hg hk
  cases h1 : deltaB a
  · have HB : Hid (joinedB a b = false) := joinedB_a h1
    go_enter Try.func20, Try.ntmps20
    go_wp2_with (go_at_call 15; refine (spec_DeltaOk A c a _ HR.out HF.out HN.out).mono ?_; rintro e w2 ⟨rfl, hw2⟩)
    go_ret2
    exact MadeC2.no (joinedL_n HB.out) HB.out hw2
  cases h2 : deltaB b
  · have HB : Hid (joinedB a b = false) := joinedB_b h2
    go_enter Try.func20, Try.ntmps20
    go_wp2_with (first
      | (go_at_call 15; (with_reducible refine (spec_DeltaOk A c a _ HR.out HF.out HN.out).mono ?_); rintro e w2 ⟨rfl, hw2⟩; have HB2 := hid hw2; clear hw2; have tk1 : Hid (1 = 1) := rfl)
      | (go_at_call 15; clear tk1; refine (spec_DeltaOk K d b _ ((HL.out.below HB2.out).more HB2.out.size) HG.out HK.out).mono ?_; rintro e w3 ⟨rfl, hw3⟩))
    go_ret2
    exact MadeC2.no (joinedL_n HB.out) HB.out (HB2.out.trans (hw3.mono HB2.out.size))
  have ha60 := (deltaB_iff.1 h1).1
  have hb60 := (deltaB_iff.1 h2).1
  have HOK := hid (ovl_right h1 h2)
  have HFA := hid (fits_ovl h1 h2)
  have HWA := hid (writeAll_ovl (deltaB_iff.1 h1).2.2 (deltaB_iff.1 h2).2.2)
  have hlo := ovl_len a b
  have HLA : Hid ((ovl a b).length ≤ maxLen) := by
    unfold Hid maxLen
    omega
  clear hlo
  go_enter Try.func20, Try.ntmps20
  go_wp2_with (first
    | (go_at_call 15; (with_reducible refine (spec_DeltaOk A c a _ HR.out HF.out HN.out).mono ?_); rintro e w2 ⟨rfl, hw2⟩; have HB2 := hid hw2; clear hw2; have tk1 : Hid (1 = 1) := rfl)
    | (go_at_call 15; clear tk1; refine (spec_DeltaOk K d b _ ((HL.out.below HB2.out).more HB2.out.size) HG.out HK.out).mono ?_; rintro e w3 ⟨rfl, hw3⟩; have HB3 := hid (HB2.out.trans (hw3.mono HB2.out.size)); have HM := hid (OwnC.made (w := w3) (Nat.le_refl _) #[] 0 rfl (Nat.zero_le _)); clear hw3)
    | (at_builtin; refine wpList_append_rc _ rfl _ _ _ rfl i0 Try.underlying27 hi0 hz0 hz1 hz2 w3.heap.size _ 0 0 [] rfl rfl HM.out _ _ _ _ a rfl rfl ((HR.out.below (HB3.out.alloc HB3.out.size _)).more (by have := HB3.out.size; simp; omega)) (by simp; omega) (by simp) ?_; intro A4 n4 c4 w4 hn4 happ4; have HN4 : Hid (n4 = a.length) := hn4; have HO4 : Hid (OwnC w4 w3.heap.size A4 c4 a) := happ4.own; have HB4 := hid ((HB3.out.alloc HB3.out.size _).trans ((happ4.below HM.out rfl (by simp)).mono HB3.out.size)); clear hn4 happ4))
  go_loopw [6, 7] (fun q i wr => ∃ (k n : Nat) (A' : Option Addr) (c' : Nat), k ≤ b.length ∧ i = .int .i64 k ∧ q = .slice A' n c' ∧ Hid (n = (writeAll a (b.take k)).length) ∧ Hid (OwnC wr w.heap.size A' c' (writeAll a (b.take k))) ∧ Hid (Below w.heap.size w wr)) (fun _ i _ => b.length - (intOf i).toNat)
  case atStart => exact ⟨0, _, _, _, Nat.zero_le _, rfl, rfl, HN4.out, HO4.out.mono HB3.out.size, HB4.out⟩
  case round =>
    obtain ⟨k, n, A', c', hk, rfl, rfl, HN', HP, HD⟩ := hrel
    by_cases hlt : k < b.length
    · obtain ⟨g, off, rfl, hgb, hc1, hc2, hc3⟩ := (HL.out.below HD.out).at_ hlt
      have HP2 := hid (writeAll_succ a hlt)
      have HSM := hid (small_all a b k)
      have e5 : (0 : Int) ≤ (k : Int) := by omega
      have e6 : (k : Int) < (b.length : Int) := by omega
      have en := HN'.out
      subst en
      generalize writeAll a (b.take k) = P at *
      go_wp2_with (go_at_call 38; refine (spec_l6Write A' c' P b[k] _ (OwnC.rh HP.out) (by have := HSM.out; omega)).mono ?_; rintro e w5 ⟨A5, c5, rfl, ho5, hb5⟩; have HO5 := hid ho5; have HB5 := hid hb5; clear ho5 hb5)
      go_roundw
      case rel => exact ⟨k + 1, _, _, _, by omega, by go_num, rfl, (by rw [HP2.out]; rfl), (by rw [HP2.out]; exact HO5.out.mono HD.out.size), HD.out.trans (HB5.out.mono HD.out.size)⟩
      case measure => simp [intOf]; omega
    · obtain rfl : k = b.length := by omega
      rw [List.take_length, HWA.out] at HN' HP
      have en := HN'.out
      subst en
      by_cases h3 : (ovl a b).length ≤ 60
      · have HB := hid (joinedB_y h1 h2 h3)
        have h4 : deltaB (ovl a b) = true := by rw [HOK.out]; simp [h3]
        go_wp2_with (go_at_call 15; refine (spec_DeltaOk A' c' (ovl a b) _ (OwnC.rh HP.out) HFA.out HLA.out).mono ?_; rintro e w6 ⟨rfl, hw6⟩; have HB6 := hid hw6)
        go_ret2
        exact MadeC2.yes (joinedL_y HB.out) HB.out (HP.out.below HB6.out) (HD.out.trans (HB6.out.mono HD.out.size))
      · have HB : Hid (joinedB a b = false) := joinedB_n h3
        have h4 : deltaB (ovl a b) = false := by rw [HOK.out]; simp [h3]
        go_wp2_with (go_at_call 15; refine (spec_DeltaOk A' c' (ovl a b) _ (OwnC.rh HP.out) HFA.out HLA.out).mono ?_; rintro e w6 ⟨rfl, hw6⟩; have HB6 := hid hw6)
        go_ret2
        exact MadeC2.no (joinedL_n HB.out) HB.out (HD.out.trans (HB6.out.mono HD.out.size))

set_option maxHeartbeats 2000000 in
theorem impl_Joined (A : Option Addr) (c : Nat) (a : CS) (K : Option Addr) (d : Nat) (b : CS) (w : World) (hr : RC w w.heap.size A a) (hv : VS A c a.length) (hf : FitsC a) (hn : a.length ≤ maxLen) (hl : RC w w.heap.size K b) (hu : VS K d b.length) (hg : FitsC b) (hk : b.length ≤ maxLen) :
    Calls Try.prog 19 #[.slice A a.length c, .slice K b.length d] w (MadeC2 w (joinedL a b) (joinedB a b)) := by
  have HR := hid hr
  have HF := hid hf
  have HN := hid hn
  have HL := hid hl
  have HG := hid hg
  have HK := hid hk
  have HV := hid hv
  have HU := hid hu
  clear hr hf hn hl hg hk hv hu
  cases h1 : deltaB a
  · have HB : Hid (joinedB a b = false) := joinedB_a h1
    go_enter Try.func19, Try.ntmps19
    go_wp2_with (go_at_call 14; refine (impl_DeltaOk A c a _ HR.out HF.out HN.out).mono ?_; rintro e w2 ⟨rfl, hw2⟩)
    go_ret2
    exact MadeC2.no (joinedL_n HB.out) HB.out hw2
  cases h2 : deltaB b
  · have HB : Hid (joinedB a b = false) := joinedB_b h2
    go_enter Try.func19, Try.ntmps19
    go_wp2_with (first
      | (go_at_call 14; (with_reducible refine (impl_DeltaOk A c a _ HR.out HF.out HN.out).mono ?_); rintro e w2 ⟨rfl, hw2⟩; have HB2 := hid hw2; clear hw2; have tk1 : Hid (1 = 1) := rfl)
      | (go_at_call 14; clear tk1; refine (impl_DeltaOk K d b _ ((HL.out.below HB2.out).more HB2.out.size) HG.out HK.out).mono ?_; rintro e w3 ⟨rfl, hw3⟩))
    go_ret2
    exact MadeC2.no (joinedL_n HB.out) HB.out (HB2.out.trans (hw3.mono HB2.out.size))
  have ha60 := (deltaB_iff.1 h1).1
  have hb60 := (deltaB_iff.1 h2).1
  have hla := ovl_len a b
  by_cases h3 : (ovl a b).length ≤ 60
  · have HB := hid (joinedB_y h1 h2 h3)
    go_enter Try.func19, Try.ntmps19
    go_wp2_with (first
      | (go_at_call 14; (with_reducible refine (impl_DeltaOk A c a _ HR.out HF.out HN.out).mono ?_); rintro e w2 ⟨rfl, hw2⟩; have HB2 := hid hw2; clear hw2; have tk1 : Hid (1 = 1) := rfl)
      | (go_at_call 14; clear tk1; refine (impl_DeltaOk K d b _ ((HL.out.below HB2.out).more HB2.out.size) HG.out HK.out).mono ?_; rintro e w3 ⟨rfl, hw3⟩; have HB3 := hid (HB2.out.trans (hw3.mono HB2.out.size)); clear hw3)
      | (go_at_call 42; refine (impl_overlaid A c a K d b _ ⟨rfl, ((HR.out.below HB3.out).more HB3.out.size), HV.out⟩ ⟨rfl, ((HL.out.below HB3.out).more HB3.out.size), HU.out⟩ (by omega) (by omega)).mono ?_; rintro e w5 ⟨A5, c5, rfl, ho5, hb5⟩; have HO5 := hid (ho5.mono HB3.out.size); have HB5 := hid (HB3.out.trans (hb5.mono HB3.out.size)); clear ho5 hb5))
    go_ret2
    exact MadeC2.yes (joinedL_y HB.out) HB.out HO5.out HB5.out
  · have HB : Hid (joinedB a b = false) := joinedB_n h3
    go_enter Try.func19, Try.ntmps19
    go_wp2_with (first
      | (go_at_call 14; (with_reducible refine (impl_DeltaOk A c a _ HR.out HF.out HN.out).mono ?_); rintro e w2 ⟨rfl, hw2⟩; have HB2 := hid hw2; clear hw2; have tk1 : Hid (1 = 1) := rfl)
      | (go_at_call 14; clear tk1; refine (impl_DeltaOk K d b _ ((HL.out.below HB2.out).more HB2.out.size) HG.out HK.out).mono ?_; rintro e w3 ⟨rfl, hw3⟩; have HB3 := hid (HB2.out.trans (hw3.mono HB2.out.size)); clear hw3)
      | (go_at_call 42; refine (impl_overlaid A c a K d b _ ⟨rfl, ((HR.out.below HB3.out).more HB3.out.size), HV.out⟩ ⟨rfl, ((HL.out.below HB3.out).more HB3.out.size), HU.out⟩ (by omega) (by omega)).mono ?_; rintro e w5 ⟨A5, c5, rfl, ho5, hb5⟩; have HO5 := hid (ho5.mono HB3.out.size); have HB5 := hid (HB3.out.trans (hb5.mono HB3.out.size)); clear ho5 hb5))
    go_ret2
    exact MadeC2.no (joinedL_n HB.out) HB.out HB5.out
end Go.Proofs.Ytoipcjdpfbgghab
